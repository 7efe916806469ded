import Derived.Test.YtgkenhmbilkhdaaGreatDoorRefOpen2
import Derived.Test.YtgkenhmbilkhdaaGreatDoorGRefOf2
import Derived.Test.YtgkenhmbilkhdaaGreatDoorGRefuse
namespace Go.Proofs.YtgkenhmbilkhdaaGreatDoor
open Go.RowKit

/-- The document's Open: its stream, reader, decoder, and the fault's cell. -/
structure RO (w0 : World) (sb : Nat) (tx : ByteArray) (I : Inp) (rb db fb : Nat) (s : RS) (d : RefD) (w : World) : Prop where
  below : Below w0.heap.size w0 w
  st : StAt w sb tx I s.2
  rd : Blk w rb (rCells sb s.1) 116
  lt : s.1 < 17
  dec : Blk w db (rdecCells sb d) 113
  fr : Blk w fb #[.int .i64 0, .int .i64 0, .int .i64 0] 43
  ge : w0.heap.size ≤ sb ∧ w0.heap.size ≤ rb ∧ w0.heap.size ≤ db ∧ w0.heap.size ≤ fb
theorem RO.rst {w0 : World} {sb : Nat} {tx : ByteArray} {I : Inp} {rb db fb : Nat} {s : RS} {d : RefD} {w : World} (h : RO w0 sb tx I rb db fb s d w) : RSt sb tx I rb w s w := ⟨KeptX.refl _ _, h.st, h.rd, h.lt⟩
theorem RO.call {w0 : World} {sb : Nat} {tx : ByteArray} {I : Inp} {rb db fb : Nat} {s s' : RS} {d : RefD} {w w' : World} (h : RO w0 sb tx I rb db fb s d w) (hR : RSt sb tx I rb w s' w') : RO w0 sb tx I rb db fb s' d w' := by
  have hg := h.ge
  exact ⟨h.below.trans (hR.1.below (by simp; omega) h.below.size), hR.2.1, hR.2.2.1, hR.2.2.2, hR.1.blk h.dec (by simp; exact ⟨h.dec.ne h.st.1 (by decide), h.dec.ne h.rd (by decide)⟩), hR.1.blk h.fr (by simp; exact ⟨h.fr.ne h.st.1 (by decide), h.fr.ne h.rd (by decide)⟩), h.ge⟩
theorem RO.about {w0 : World} {sb : Nat} {tx : ByteArray} {I : Inp} {rb db fb ab : Nat} {s s' : RS} {d d' : RefD} {cs : Array Value} {w w' : World} (h : RO w0 sb tx I rb db fb s d w) (hQ : RQ w sb tx I rb db ab s' d' cs w') : RO w0 sb tx I rb db fb s' d' w' := by
  have hg := h.ge
  exact ⟨h.below.trans (hQ.kept.below (by simp; omega) h.below.size), hQ.st, hQ.rd, hQ.lt, hQ.dec, hQ.kept.blk h.fr (by simp; exact ⟨h.fr.ne h.st.1 (by decide), h.fr.ne h.rd (by decide), h.fr.ne h.dec (by decide)⟩), h.ge⟩
/-- Is it another marker? -/
def markBad (s : RS) (l : List Nat) : Bool := decide (s.1 = 0 ∧ l ≠ [102, 76, 97, 67])
theorem markBad_0 {s : RS} {l : List Nat} (h : s.1 ≠ 0) : markBad s l = false := by unfold markBad; simp [h]
theorem markBad_1 {s : RS} {l : List Nat} (h : s.1 = 0) : markBad s l = !decide (l = [102, 76, 97, 67]) := by unfold markBad; simp [h]
/-- Behind the marker. -/
def MarkEnd (I : Inp) (s : RS) : Prop := (s.1 ≠ 0 ∧ openP I = .error (s.1, 0)) ∨ (s = (0, 32) ∧ markP I 0 = .ok ((), 32))
theorem mark_end {I : Inp} (hst : I.st = 1 ∨ I.st = 14 ∨ I.st = 16) {l : List Nat} {s : RS} (h : skText I 4 [] (0, 0) = (l, s)) : MarkEnd I (if s.1 = 0 ∧ l ≠ [102, 76, 97, 67] then skFail 2 s else s) := by
  rcases (Sim.bytes hst 4).good (pos := 0) with ⟨a, j, h1, h2⟩ | ⟨x, h1, hx, h2⟩
  · rw [h] at h2
    injection h2 with h3 h4
    subst h3; subst h4
    obtain ⟨rfl, hm⟩ := mark_ok h1
    by_cases hl : l = [102, 76, 97, 67]
    · rw [if_neg (by simp [hl])]
      exact Or.inr ⟨rfl, by rw [hm, hl]; rfl⟩
    · rw [if_pos ⟨rfl, hl⟩]
      refine Or.inl ⟨by simp [skFail], open_mark_err ?_⟩
      rw [hm]
      exact Par.check_no (by simp [hl])
  · rw [h] at h2
    simp only at h2
    rw [if_neg (by rw [h2]; exact fun h => hx h.1)]
    exact Or.inl ⟨by rw [h2]; exact hx, by rw [h2]; exact open_mark_err (mark_no h1)⟩
def refd0 : RefD := ⟨info0, 0, 0, 0, false, ⟨#[]⟩, 0, 0, 0⟩

/-- What holds ahead of each block. -/
def ORel (w0 : World) (sb : Nat) (tx : ByteArray) (I : Inp) (rb db fb : Nat) (gk : Nat) (v13 v14 v15 : Value) (wr : World) : Prop :=
  ∃ (e pos : Nat) (d : RefD), Hid (RO w0 sb tx I rb db fb (e, pos) d wr) ∧ d = { refd0 with info := d.info } ∧
    ((∃ (a : Nat) (x y : Int), gk = 0 ∧ v13 = .int .i64 (a : Int) ∧ v14 = .int .i64 x ∧ v15 = .int .i64 y ∧ e ≠ 0 ∧ Hid (openP I = .error (e, a))) ∨
     (∃ x y : Int, gk = 0 ∧ v13 = .int .i64 x ∧ v14 = .int .i64 1 ∧ v15 = .int .i64 y ∧ e = 0 ∧ Hid (openP I = .ok (d.info, pos))) ∨
     (∃ x : Int, gk = I.T.length + 2 ∧ v13 = .int .i64 x ∧ v14 = .int .i64 0 ∧ v15 = .int .i64 0 ∧ e = 0 ∧ pos = 32 ∧ Hid (markP I 0 = .ok ((), 32))) ∨
     (∃ (n k : Nat) (x : Int), gk = n ∧ v13 = .int .i64 x ∧ v14 = .int .i64 0 ∧ v15 = .int .i64 (k : Int) ∧ e = 0 ∧ 1 ≤ k ∧ k + n = I.T.length + 2 ∧ 32 * (I.T.length + 1) ≤ pos + 32 * n ∧ Hid (openP I = afterFirst I d.info n pos)))
theorem o_start {w0 : World} {sb : Nat} {tx : ByteArray} {I : Inp} {rb db fb : Nat} {s : RS} {w : World} (h : RO w0 sb tx I rb db fb s refd0 w) (hm : MarkEnd I s) : ∃ gk, ORel w0 sb tx I rb db fb gk (.int .i64 0) (.int .i64 0) (.int .i64 0) w := by
  obtain ⟨e, pos⟩ := s
  rcases hm with ⟨h1, h2⟩ | ⟨h1, h2⟩
  · exact ⟨0, e, pos, refd0, hid h, rfl, Or.inl ⟨0, 0, 0, rfl, rfl, rfl, rfl, h1, hid h2⟩⟩
  · injection h1 with h3 h4
    exact ⟨I.T.length + 2, e, pos, refd0, hid h, rfl, Or.inr (Or.inr (Or.inl ⟨0, rfl, rfl, rfl, rfl, h3, h4, hid h2⟩))⟩
/-- Behind the first block. -/
theorem o_first {w0 : World} {sb : Nat} {tx : ByteArray} {I : Inp} {rb db fb : Nat} {s3 : RS} {d : RefD} {w : World} {l k n : Nat} (hd : d = { refd0 with info := d.info }) (hst : I.st = 1 ∨ I.st = 14 ∨ I.st = 16) (hm : markP I 0 = .ok ((), 32)) (h3 : skMeta I (0, 32) = ((l, k, n), s3)) (hl : l < 2)
    (h : RO w0 sb tx I rb db fb (skAbout I (if s3.1 = 0 ∧ ¬ (k = 0 ∧ n = 34) then skFail 5 s3 else s3)).2 { d with info := (skAbout I (if s3.1 = 0 ∧ ¬ (k = 0 ∧ n = 34) then skFail 5 s3 else s3)).1 } w) :
    ∃ gk, gk < I.T.length + 2 ∧ ORel w0 sb tx I rb db fb gk (.int .i64 4) (.int .i64 (l : Int)) (.int .i64 1) w := by
  have hf := first_three h3
  generalize skAbout I (if s3.1 = 0 ∧ ¬ (k = 0 ∧ n = 34) then skFail 5 s3 else s3) = z at h hf
  obtain ⟨i, e, pos⟩ := z
  have hd' : ({ d with info := i } : RefD) = { refd0 with info := i } := by rw [hd]
  rcases (Sim.first hst).good (pos := 32) with ⟨a, j, h1, h2⟩ | ⟨x, h1, hx, h2⟩
  · rw [hf] at h2
    injection h2 with h4 h5
    injection h5 with h5 h6
    subst h4
    by_cases hl1 : l = 1
    · subst hl1
      exact ⟨0, by omega, e, pos, _, hid h, hd', Or.inr (Or.inl ⟨4, 1, rfl, rfl, rfl, rfl, h5, hid (by rw [h6]; exact open_first_last hm h1)⟩)⟩
    · obtain rfl : l = 0 := by omega
      exact ⟨I.T.length + 1, by omega, e, pos, _, hid h, hd', Or.inr (Or.inr (Or.inr ⟨I.T.length + 1, 1, 4, rfl, rfl, rfl, rfl, h5, by omega, by omega, by omega, hid (by rw [h6]; exact open_first_more (by omega) hm h1)⟩))⟩
  · rw [hf] at h2
    simp only at h2
    exact ⟨0, by omega, e, pos, _, hid h, hd', Or.inl ⟨4, l, 1, rfl, rfl, rfl, rfl, by rw [h2]; exact hx, hid (by rw [h2]; exact open_first_err hm h1)⟩⟩
/-- Behind a later block. -/
theorem o_later {w0 : World} {sb : Nat} {tx : ByteArray} {I : Inp} {rb db fb : Nat} {s3 : RS} {d : RefD} {w : World} {l k n m kk pos a : Nat} (hd : d = { refd0 with info := d.info }) (hst : I.st = 1 ∨ I.st = 14 ∨ I.st = 16) (h3 : skMeta I (0, pos) = ((l, k, n), s3)) (hl : l < 2) (hk : kk + (m + 1) = I.T.length + 2) (hge : 32 * (I.T.length + 1) ≤ pos + 32 * (m + 1)) (ho : openP I = afterFirst I d.info (m + 1) pos) (ha : a = pos / 8)
    (h : RO w0 sb tx I rb db fb (skPass I n (if s3.1 = 0 ∧ (k = 127 ∨ k = 0) then skFail 5 s3 else s3)) d w) :
    ∃ gk, gk < m + 1 ∧ ORel w0 sb tx I rb db fb gk (.int .i64 (a : Int)) (.int .i64 (l : Int)) (.int .i64 ((kk + 1 : Nat) : Int)) w := by
  have hf := later_three h3
  generalize skPass I n (if s3.1 = 0 ∧ (k = 127 ∨ k = 0) then skFail 5 s3 else s3) = z at h hf
  obtain ⟨e, p⟩ := z
  subst ha
  rcases later_sim hst pos with ⟨l', j, h1, h2⟩ | ⟨x, h1, hx, h2⟩
  · rw [hf] at h2
    injection h2 with h4 h5
    injection h5 with h5 h6
    subst h4
    have hj := later_pos h1
    by_cases hl1 : l = 1
    · subst hl1
      exact ⟨0, by omega, e, p, d, hid h, hd, Or.inr (Or.inl ⟨_, _, rfl, rfl, rfl, rfl, h5, hid (by rw [h6, ho]; exact after_last h1)⟩)⟩
    · obtain rfl : l = 0 := by omega
      exact ⟨m, by omega, e, p, d, hid h, hd, Or.inr (Or.inr (Or.inr ⟨m, kk + 1, _, rfl, rfl, rfl, rfl, h5, by omega, by omega, by omega, hid (by rw [h6, ho]; exact after_more (by omega) h1)⟩))⟩
  · rw [hf] at h2
    simp only at h2
    exact ⟨0, by omega, e, p, d, hid h, hd, Or.inl ⟨_, _, _, rfl, rfl, rfl, rfl, by rw [h2]; exact hx, hid (by rw [h2, ho]; exact after_err h1)⟩⟩

/-- What the document's Open leaves. -/
def RefOpened (w : World) (I : Inp) (e : Ending) (w' : World) : Prop := Below w.heap.size w w' ∧
  ((∃ i pos mb sb tx, openP I = .ok (i, pos) ∧ e = .returned (.tuple #[.pointer (some ⟨mb, 0, none⟩), faultV 0 0 0]) ∧ Blk w' mb (rdecCells sb { refd0 with info := i, byte := pos / 8 }) 113 ∧ StAt w' sb tx I pos ∧ w.heap.size ≤ mb ∧ w.heap.size ≤ sb) ∨
   (∃ x a : Nat, openP I = .error (x, a) ∧ e = .returned (.tuple #[.pointer none, faultV (x : Int) (-1) (a : Int)])))

set_option maxRecDepth 10000 in
set_option maxHeartbeats 8000000 in
theorem refOpen_yes (k : Nat) (hk : k = 0 ∨ k = 1) (s : ByteArray) (pv : Value) (P : List Int) (br : Int) (B : Nat) (hs : s.size ≤ 1048576) (hP20 : P.length ≤ 1048576) (hpi : ∀ x ∈ P, -9223372036854775808 ≤ x ∧ x < 9223372036854775808) (hbr : br < 9223372036854775808) (w : World) (hB : B ≤ w.heap.size) (hP : IntsAt w B pv P) :
    Calls Tryz.prog 21 #[.string s, pv, .int .i64 br, .int .i64 (k : Int)] w fun e w' => RefOpened w (inpOf s P br) e w' := by
  have HST : Hid ((inpOf s P br).st = 1 ∨ (inpOf s P br).st = 14 ∨ (inpOf s P br).st = 16) := of_stop P 0 0
  have hil := inp_len s P br
  obtain ⟨wd, HWD⟩ : ∃ wd, Hid (wd = (w.alloc (.cells #[.int .i64 0, .int .i64 0, .int .i64 0] 43)).alloc (.cells #[.pointer none, .int .i64 0, .int .i64 0, .int .i64 0, .int .i64 0, .int .i64 0, .int .i64 0, .int .i64 0, .int .i64 0, .string ⟨#[]⟩, .int .i64 0, .int .i64 0, .int .i64 0, .bool false, .string ⟨#[]⟩, .int .i64 0, .int .i64 0, .int .i64 0] 113)) := ⟨_, rfl⟩
  have hbd : Below w.heap.size w wd := by rw [HWD.out]; go_grown
  have hszd : wd.heap.size = w.heap.size + 1 + 1 := by rw [HWD.out, World.size_alloc, World.size_alloc]
  have b0 : Blk wd w.heap.size #[.int .i64 0, .int .i64 0, .int .i64 0] 43 := by rw [HWD.out]; exact (Blk.new w _ _).alloc _
  have b1 : Blk wd (w.heap.size + 1) #[.pointer none, .int .i64 0, .int .i64 0, .int .i64 0, .int .i64 0, .int .i64 0, .int .i64 0, .int .i64 0, .int .i64 0, .string ⟨#[]⟩, .int .i64 0, .int .i64 0, .int .i64 0, .bool false, .string ⟨#[]⟩, .int .i64 0, .int .i64 0, .int .i64 0] 113 := by
    rw [HWD.out]
    have := Blk.new (w.alloc (.cells #[.int .i64 0, .int .i64 0, .int .i64 0] 43)) #[.pointer none, .int .i64 0, .int .i64 0, .int .i64 0, .int .i64 0, .int .i64 0, .int .i64 0, .int .i64 0, .int .i64 0, .string ⟨#[]⟩, .int .i64 0, .int .i64 0, .int .i64 0, .bool false, .string ⟨#[]⟩, .int .i64 0, .int .i64 0, .int .i64 0] 113
    rw [World.size_alloc] at this
    exact this
  have HOF := hid (fun (W : World) (h : W = wd) => Eq.mpr (congrArg (fun V => Calls Tryz.prog 18 #[.string s, pv, .int .i64 br] V (fun e w' => OfPost wd s (ofFrom s.size br P 0 0) e w')) h) (of_any s pv P br B hs hP20 hpi hbr wd (hP.below (hbd.mono hB))))
  have HB0 := hid (And.intro hbd (And.intro b0 b1))
  clear hbd b0 b1 hP hpi
  go_enter Tryz.func21, Tryz.ntmps21
  go_upto_region 1 with fail
  go_cut [22] (fun v wx => v = .bool false ∧ wx = w.alloc (.cells #[.int .i64 0, .int .i64 0, .int .i64 0] 43))
  case first =>
    rcases hk with rfl | rfl
    · go_wp2
      go_meet
      case rel => exact ⟨rfl, rfl⟩
    · go_wp2
      go_meet
      case rel => exact ⟨rfl, rfl⟩
  obtain ⟨rfl, rfl⟩ := hcut
  go_wp2_with fail
  refine (HOF.out _ (by rw [HWD.out])).mono ?_
  rintro e w1 ⟨tx, rfl, hb1, hST, htx⟩
  have hsz1 := hb1.size
  have hb01 : Below w.heap.size w w1 := HB0.out.1.trans (hb1.mono (by omega))
  have b0' := HB0.out.2.1.below hb1 (by omega)
  have b1' := HB0.out.2.2.below hb1 (by omega)
  have hltS := hST.lt
  rw [hszd] at hST
  have c0 : w1.cell? ⟨w.heap.size + 1, 0, none⟩ = some (.pointer none) := b1'.cell 0
  have f0 := b1'.free 0
  have hRO : RO w (w.heap.size + 1 + 1) tx (inpOf s P br) w1.heap.size (w.heap.size + 1) w.heap.size (0, 0) refd0 ((w1.setCell ⟨w.heap.size + 1, 0, none⟩ (.pointer (some ⟨w.heap.size + 1 + 1, 0, none⟩))).alloc (.cells #[.pointer (some ⟨w.heap.size + 1 + 1, 0, none⟩), .int .i64 0] 116)) := by
    refine ⟨(hb01.setCell (p := ⟨w.heap.size + 1, 0, none⟩) (by simp) _).alloc (by rw [World.size_setCell]; omega) _, ⟨(hST.other (p := ⟨w.heap.size + 1, 0, none⟩) (by simp) _).alloc _, htx, by omega, of_stop P 0 0, by omega⟩, ?_, by show 0 < 17; omega, (b1'.set 0 _).alloc _, (b0'.other (p := ⟨w.heap.size + 1, 0, none⟩) (by simp) _).alloc _, by omega, by omega, by omega, by omega⟩
    have := Blk.new (w1.setCell ⟨w.heap.size + 1, 0, none⟩ (.pointer (some ⟨w.heap.size + 1 + 1, 0, none⟩))) #[.pointer (some ⟨w.heap.size + 1 + 1, 0, none⟩), .int .i64 0] 116
    rw [World.size_setCell] at this
    exact this
  have HRO := hid hRO
  clear hRO hb01 b0' b1' hST htx hb1 HB0 HOF
  rw [hszd]
  go_wp2_with fail
  refine (refText 4 (by omega) HRO.out.rst).mono ?_
  rintro e w2 ⟨rfl, hR2⟩
  obtain ⟨l, s1, hsk⟩ : ∃ l s1, skText (inpOf s P br) 4 [] (0, 0) = (l, s1) := ⟨_, _, rfl⟩
  rw [hsk] at hR2 ⊢
  have HME := hid (mark_end HST.out hsk)
  replace HRO := hid (HRO.out.call hR2)
  have HL8 : Hid (∀ x ∈ l, x < 256) := by
    have := skText_lt (inpOf s P br) 4 [] (0, 0) (by simp)
    rw [hsk] at this
    exact this
  clear hR2 hsk c0 f0
  go_upto_region 7 with fail
  have r1 : w2.cell? ⟨w1.heap.size, 1, none⟩ = some (.int .i64 (s1.1 : Int)) := HRO.out.rd.cell 1
  go_cut [49] (fun v wx => ∃ b, v = .bool b ∧ Hid (b = markBad s1 l) ∧ wx = w2)
  case first =>
    by_cases he : s1.1 = 0
    · rw [he] at r1
      by_cases hl : l = [102, 76, 97, 67]
      · subst hl
        have hstr : strOf [102, 76, 97, 67] = ⟨#[102, 76, 97, 67]⟩ := rfl
        rw [hstr]
        go_wp2
        go_meet
        case rel => exact ⟨false, rfl, hid (by rw [markBad_1 he]; rfl), rfl⟩
      · go_wp2
        go_meet
        case rel => exact ⟨_, rfl, hid (by rw [str_flac HL8.out, markBad_1 he]), rfl⟩
    · have he' : ((s1.1 : Int) == 0) = false := by simp; omega
      go_wp2
      go_meet
      case rel => exact ⟨false, rfl, hid (by rw [markBad_0 he]), rfl⟩
  case rest =>
    obtain ⟨b, rfl, HBB, rfl⟩ := hcut
    clear r1
    go_upto_if 49 with fail
    go_cut [] (fun wx => ∃ s2 : RS, Hid (RO w (w.heap.size + 1 + 1) tx (inpOf s P br) w1.heap.size (w.heap.size + 1) w.heap.size s2 refd0 wx) ∧ Hid (MarkEnd (inpOf s P br) s2))
    case first =>
      cases b
      rotate_left
      · have hc : s1.1 = 0 ∧ l ≠ [102, 76, 97, 67] := of_decide_eq_true HBB.out.symm
        have HM2 := HME.out
        rw [if_pos hc] at HM2
        have HM3 := hid HM2
        clear HM2 HME hc
        go_wp2_with fail
        refine (refFail 2 (by omega) HRO.out.rst).mono ?_
        rintro e w3 ⟨rfl, hR3⟩
        have HR3 := hid (HRO.out.call hR3)
        clear hR3
        go_wp2
        go_meet
        case rel => exact ⟨_, HR3, HM3⟩
      · have hc : ¬ (s1.1 = 0 ∧ l ≠ [102, 76, 97, 67]) := of_decide_eq_false HBB.out.symm
        have HM2 := HME.out
        rw [if_neg hc] at HM2
        have HM3 := hid HM2
        clear HM2 HME hc
        go_wp2
        go_meet
        case rel => exact ⟨_, HRO, HM3⟩
    case rest =>
      clear HRO HME
      obtain ⟨s2, HRO, HM⟩ := hcut
      obtain ⟨gk0, hO⟩ := o_start HRO.out HM.out
      have HO := hid hO
      clear hO HRO HM
      go_wp2
      go_loopg [13, 14, 15] gk0 (fun gk v13 v14 v15 wr => ORel w (w.heap.size + 1 + 1) tx (inpOf s P br) w1.heap.size (w.heap.size + 1) w.heap.size gk v13 v14 v15 wr)
      case atStart => exact HO.out
      case round =>
        clear HO
        obtain ⟨e, pos, d, HRO, hd, hcase⟩ := hrel
        have HD := hid hd
        clear hd
        have r1 : wr.cell? ⟨w1.heap.size, 1, none⟩ = some (.int .i64 (e : Int)) := HRO.out.rd.cell 1
        rcases hcase with ⟨a, x, y, hgk, rfl, rfl, rfl, he, HOP⟩ | ⟨x, y, hgk, rfl, rfl, rfl, rfl, HOP⟩ | ⟨x, hgk, rfl, rfl, rfl, rfl, rfl, HMK⟩ | ⟨n, k, x, hgk, rfl, rfl, rfl, rfl, hk1, hkn, hge, HOP⟩
        · have he0 : ((e : Int) == 0) = false := by simp; omega
          have he1 : ((e : Int) != 0) = true := by simp; omega
          have q0 : wr.cell? ⟨w.heap.size, 0, none⟩ = some (.int .i64 0) := HRO.out.fr.cell 0
          have q1 : wr.cell? ⟨w.heap.size, 1, none⟩ = some (.int .i64 0) := HRO.out.fr.cell 1
          have q2 : wr.cell? ⟨w.heap.size, 2, none⟩ = some (.int .i64 0) := HRO.out.fr.cell 2
          have z0 := HRO.out.fr.free 0
          have z1 := HRO.out.fr.free 1
          have z2 := HRO.out.fr.free 2
          have hnr : ¬ w.heap.size = w1.heap.size := by omega
          go_wp2
          go_region
          go_wp2
          have g := ((HRO.out.fr.set 0 (.int .i64 (e : Int))).set 1 (.int .i64 (-1))).set 2 (.int .i64 (a : Int))
          have g0 := g.cell 0
          have g1 := g.cell 1
          have g2 := g.cell 2
          simp at g0 g1 g2
          refine bodyPost_ret (v := .tuple #[.pointer none, faultV (e : Int) (-1) (a : Int)]) (by simp [results, Tryz.results21, go_sem, faultV, g0, g1, g2]) rfl ?_
          exact ⟨(((HRO.out.below.setCell (p := ⟨w.heap.size, 0, none⟩) (by simp) _).setCell (p := ⟨w.heap.size, 1, none⟩) (by simp) _).setCell (p := ⟨w.heap.size, 2, none⟩) (by simp) _).drew, Or.inr ⟨e, a, HOP.out, rfl⟩⟩
        · have q0 : wr.cell? ⟨w.heap.size, 0, none⟩ = some (.int .i64 0) := HRO.out.fr.cell 0
          have q1 : wr.cell? ⟨w.heap.size, 1, none⟩ = some (.int .i64 0) := HRO.out.fr.cell 1
          have q2 : wr.cell? ⟨w.heap.size, 2, none⟩ = some (.int .i64 0) := HRO.out.fr.cell 2
          have z0 := HRO.out.fr.free 0
          have z1 := HRO.out.fr.free 1
          have z2 := HRO.out.fr.free 2
          have d0 : wr.cell? ⟨w.heap.size + 1, 0, none⟩ = some (.pointer (some ⟨w.heap.size + 1 + 1, 0, none⟩)) := HRO.out.dec.cell 0
          have d10 : wr.cell? ⟨w.heap.size + 1, 10, none⟩ = some (.int .i64 (d.byte : Int)) := HRO.out.dec.cell 10
          have fd10 := HRO.out.dec.free 10
          have t2 : wr.cell? ⟨w.heap.size + 1 + 1, 2, none⟩ = some (.int .i64 (pos : Int)) := HRO.out.st.cells.2.2.1
          have hpb := HRO.out.st.2.2.2.2
          have hq : (pos : Int).tdiv 8 = ((pos / 8 : Nat) : Int) := by rw [Int.tdiv_eq_ediv_of_nonneg (by omega)]; omega
          have hq2 : pos / 8 ≤ 1048576 := by omega
          obtain ⟨pq, hpq⟩ : ∃ pq, pq = pos / 8 := ⟨_, rfl⟩
          rw [← hpq] at hq hq2
          have HPQ := hid hpq
          clear hpq
          go_wp2
          have hD := HRO.out.dec.set 10 (.int .i64 (pq : Int))
          have hKD : KeptX [w.heap.size + 1] wr (wr.setCell ⟨w.heap.size + 1, 10, none⟩ (.int .i64 (pq : Int))) := (KeptX.refl _ _).setCell (by simp) 10 _
          have hF0 := hKD.blk HRO.out.fr (by simp)
          have g := ((hF0.set 0 (.int .i64 0)).set 1 (.int .i64 0)).set 2 (.int .i64 0)
          have hKF := (((KeptX.refl [w.heap.size] (wr.setCell ⟨w.heap.size + 1, 10, none⟩ (.int .i64 (pq : Int)))).setCell (p := w.heap.size) (by simp) 0 (.int .i64 0)).setCell (p := w.heap.size) (by simp) 1 (.int .i64 0)).setCell (p := w.heap.size) (by simp) 2 (.int .i64 0)
          have g0 := g.cell 0
          have g1 := g.cell 1
          have g2 := g.cell 2
          simp at g0 g1 g2
          refine bodyPost_ret (v := .tuple #[.pointer (some ⟨w.heap.size + 1, 0, none⟩), faultV 0 0 0]) (by simp [results, Tryz.results21, go_sem, faultV, g0, g1, g2]) rfl ?_
          have hD2 := hKF.blk hD (by simp)
          have hS2 := hKF.blk (hKD.blk HRO.out.st.1 (by simp)) (by simp; omega)
          refine ⟨(((HRO.out.below.setCell (p := ⟨w.heap.size + 1, 10, none⟩) (by simp) _).setCell (p := ⟨w.heap.size, 0, none⟩) (by simp) _).setCell (p := ⟨w.heap.size, 1, none⟩) (by simp) _).setCell (p := ⟨w.heap.size, 2, none⟩) (by simp) _, Or.inl ?_⟩
          refine ⟨d.info, pos, w.heap.size + 1, w.heap.size + 1 + 1, tx, HOP.out, rfl, ?_, ⟨hS2, HRO.out.st.2⟩, by omega, by omega⟩
          rw [← HPQ.out]
          have hde := HD.out
          rw [hde] at hD2
          exact hD2
        · have hgk2 := hgk
          have d0 : wr.cell? ⟨w.heap.size + 1, 0, none⟩ = some (.pointer (some ⟨w.heap.size + 1 + 1, 0, none⟩)) := HRO.out.dec.cell 0
          have t2 : wr.cell? ⟨w.heap.size + 1 + 1, 2, none⟩ = some (.int .i64 (32 : Int)) := HRO.out.st.cells.2.2.1
          have hpb := HRO.out.st.2.2.2.2
          go_wp2_with fail
          refine (refBitsE (by omega) (by omega) HRO.out.rst).mono ?_
          rintro e4 w4 ⟨l4, s4, hv4, hl4, rfl, hR4⟩
          have hlt4 : l4 < 2 := by have := skRd_lt (inpOf s P br) 1 (0, 32); rw [show skRd (inpOf s P br) 1 (0, 32) = (l4, s4) from hv4] at this; exact this
          have HV4 := hid hv4
          replace HRO := hid (HRO.out.call hR4)
          clear hR4 hv4 r1 d0 t2
          go_wp2_with fail
          refine (refBitsE (by omega) (by omega) HRO.out.rst).mono ?_
          rintro e5 w5 ⟨kd, s5, hv5, hl5, rfl, hR5⟩
          have HV5 := hid hv5
          replace HRO := hid (HRO.out.call hR5)
          clear hR5 hv5
          go_wp2_with fail
          refine (refBitsE (by omega) (by omega) HRO.out.rst).mono ?_
          rintro e6 w6 ⟨n3, s6, hv6, hl6, rfl, hR6⟩
          have HM6 := hid (meta_three HV4.out HV5.out hv6)
          replace HRO := hid (HRO.out.call hR6)
          clear hR6 hv6 HV4 HV5
          have r1 : w6.cell? ⟨w1.heap.size, 1, none⟩ = some (.int .i64 (s6.1 : Int)) := HRO.out.rd.cell 1
          go_upto_region 18 with fail
          go_cut [100] (fun v wx => ∃ b, v = .bool b ∧ Hid (b = decide (s6.1 = 0 ∧ ¬ (kd = 0 ∧ n3 = 34))) ∧ wx = w6)
          case first =>
            by_cases he : s6.1 = 0
            · rw [he] at r1
              by_cases k1 : kd = 127
              · subst k1
                go_wp2
                go_meet
                case rel => exact ⟨true, rfl, hid (by simp [he]), rfl⟩
              · have k1' : ((kd : Int) == 127) = false := by simp; omega
                by_cases k2 : kd = 0
                · subst k2
                  by_cases k3 : n3 = 34
                  · subst k3
                    go_wp2
                    go_meet
                    case rel => exact ⟨false, rfl, hid (by simp), rfl⟩
                  · have k3' : ((n3 : Int) != 34) = true := by simp; omega
                    go_wp2
                    go_meet
                    case rel => exact ⟨true, rfl, hid (by simp [he, k3]), rfl⟩
                · have k2' : ((kd : Int) == 0) = false := by simp; omega
                  go_wp2
                  go_meet
                  case rel => exact ⟨true, rfl, hid (by simp [he, k2]), rfl⟩
            · have he' : ((s6.1 : Int) == 0) = false := by simp; omega
              go_wp2
              go_meet
              case rel => exact ⟨false, rfl, hid (by simp [he]), rfl⟩
          case rest =>
            obtain ⟨b, rfl, HBB, rfl⟩ := hcut
            clear r1
            go_upto_if 100 with fail
            go_cut [] (fun wx => Hid (RO w (w.heap.size + 1 + 1) tx (inpOf s P br) w1.heap.size (w.heap.size + 1) w.heap.size (if s6.1 = 0 ∧ ¬ (kd = 0 ∧ n3 = 34) then skFail 5 s6 else s6) d wx))
            case first =>
              cases b
              rotate_left
              · have hc := of_decide_eq_true HBB.out.symm
                have HC := hid hc
                clear hc
                go_wp2_with fail
                refine (refFail 5 (by omega) HRO.out.rst).mono ?_
                rintro e7 w7 ⟨rfl, hR7⟩
                have HR7 := hid (HRO.out.call hR7)
                clear hR7
                go_wp2
                go_meet
                case rel => rw [if_pos HC.out]; exact HR7
              · have hc := of_decide_eq_false HBB.out.symm
                have HC := hid hc
                clear hc
                go_wp2
                go_meet
                case rel => rw [if_neg HC.out]; exact HRO
            case rest =>
              clear HRO HBB
              have HRO := hcut
              clear hcut
              go_wp2_with fail
              refine (refAbout HRO.out.rst HRO.out.dec).mono ?_
              rintro e8 w8 ⟨rfl, hQ8⟩
              obtain ⟨g8, hg8, hO8⟩ := o_first HD.out HST.out HMK.out HM6.out hlt4 (HRO.out.about hQ8)
              have HO8 := hid hO8
              clear hQ8 hO8 HRO
              go_wp2
              go_roundg g8
              case measure => omega
              case rel => exact HO8.out
        · have hgk2 := hgk
          have d0 : wr.cell? ⟨w.heap.size + 1, 0, none⟩ = some (.pointer (some ⟨w.heap.size + 1 + 1, 0, none⟩)) := HRO.out.dec.cell 0
          have t2 : wr.cell? ⟨w.heap.size + 1 + 1, 2, none⟩ = some (.int .i64 ((pos : Int) : Int)) := HRO.out.st.cells.2.2.1
          have hpb := HRO.out.st.2.2.2.2
          have hq : (pos : Int).tdiv 8 = ((pos / 8 : Nat) : Int) := by rw [Int.tdiv_eq_ediv_of_nonneg (by omega)]; omega
          have hq2 : pos / 8 ≤ 1048576 := by omega
          obtain ⟨pq, hpq⟩ : ∃ pq, pq = pos / 8 := ⟨_, rfl⟩
          rw [← hpq] at hq hq2
          have HPQ := hid hpq
          have hk20 : (k : Int) ≤ 1048578 := by omega
          have hkb : ((k : Int) == 0) = false := by simp; omega
          clear hpq
          go_wp2_with fail
          refine (refBitsE (by omega) (by omega) HRO.out.rst).mono ?_
          rintro e4 w4 ⟨l4, s4, hv4, hl4, rfl, hR4⟩
          have hlt4 : l4 < 2 := by have := skRd_lt (inpOf s P br) 1 (0, pos); rw [show skRd (inpOf s P br) 1 (0, pos) = (l4, s4) from hv4] at this; exact this
          have HV4 := hid hv4
          replace HRO := hid (HRO.out.call hR4)
          clear hR4 hv4 r1 d0 t2
          go_wp2_with fail
          refine (refBitsE (by omega) (by omega) HRO.out.rst).mono ?_
          rintro e5 w5 ⟨kd, s5, hv5, hl5, rfl, hR5⟩
          have HV5 := hid hv5
          replace HRO := hid (HRO.out.call hR5)
          clear hR5 hv5
          go_wp2_with fail
          refine (refBitsE (by omega) (by omega) HRO.out.rst).mono ?_
          rintro e6 w6 ⟨n3, s6, hv6, hl6, rfl, hR6⟩
          have HM6 := hid (meta_three HV4.out HV5.out hv6)
          replace HRO := hid (HRO.out.call hR6)
          clear hR6 hv6 HV4 HV5
          have r1 : w6.cell? ⟨w1.heap.size, 1, none⟩ = some (.int .i64 (s6.1 : Int)) := HRO.out.rd.cell 1
          go_upto_region 18 with fail
          go_cut [100] (fun v wx => ∃ b, v = .bool b ∧ Hid (b = decide (s6.1 = 0 ∧ (kd = 127 ∨ kd = 0))) ∧ wx = w6)
          case first =>
            by_cases he : s6.1 = 0
            · rw [he] at r1
              by_cases k1 : kd = 127
              · subst k1
                go_wp2
                go_meet
                case rel => exact ⟨true, rfl, hid (by simp [he]), rfl⟩
              · have k1' : ((kd : Int) == 127) = false := by simp; omega
                by_cases k2 : kd = 0
                · subst k2
                  go_wp2
                  go_meet
                  case rel => exact ⟨true, rfl, hid (by simp [he]), rfl⟩
                · have k2' : ((kd : Int) == 0) = false := by simp; omega
                  go_wp2
                  go_meet
                  case rel => exact ⟨false, rfl, hid (by simp [k1, k2]), rfl⟩
            · have he' : ((s6.1 : Int) == 0) = false := by simp; omega
              go_wp2
              go_meet
              case rel => exact ⟨false, rfl, hid (by simp [he]), rfl⟩
          case rest =>
            obtain ⟨b, rfl, HBB, rfl⟩ := hcut
            clear r1
            go_upto_if 100 with fail
            go_cut [] (fun wx => Hid (RO w (w.heap.size + 1 + 1) tx (inpOf s P br) w1.heap.size (w.heap.size + 1) w.heap.size (if s6.1 = 0 ∧ (kd = 127 ∨ kd = 0) then skFail 5 s6 else s6) d wx))
            case first =>
              cases b
              rotate_left
              · have hc := of_decide_eq_true HBB.out.symm
                have HC := hid hc
                clear hc
                go_wp2_with fail
                refine (refFail 5 (by omega) HRO.out.rst).mono ?_
                rintro e7 w7 ⟨rfl, hR7⟩
                have HR7 := hid (HRO.out.call hR7)
                clear hR7
                go_wp2
                go_meet
                case rel => rw [if_pos HC.out]; exact HR7
              · have hc := of_decide_eq_false HBB.out.symm
                have HC := hid hc
                clear hc
                go_wp2
                go_meet
                case rel => rw [if_neg HC.out]; exact HRO
            case rest =>
              clear HRO HBB
              have HRO := hcut
              clear hcut
              obtain ⟨m, rfl⟩ : ∃ m, n = m + 1 := ⟨n - 1, by omega⟩
              go_wp2_with fail
              refine (refPass n3 hl6 HRO.out.rst).mono ?_
              rintro e8 w8 ⟨rfl, hR8⟩
              obtain ⟨g8, hg8, hO8⟩ := o_later (kk := k) HD.out HST.out HM6.out hlt4 (by omega) (by omega) HOP.out HPQ.out (HRO.out.call hR8)
              have HO8 := hid hO8
              clear hR8 hO8 HRO
              go_wp2
              go_roundg g8
              case measure => omega
              case rel => exact HO8.out
end Go.Proofs.YtgkenhmbilkhdaaGreatDoor
