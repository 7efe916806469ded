import Derived.Test.YtgkenhmbilkhdaaGreatDoorGSkOpen
import Derived.Test.YtgkenhmbilkhdaaGreatDoorDec4
import Derived.Test.YtgkenhmbilkhdaaGreatDoorGDec2
import Derived.Test.YtgkenhmbilkhdaaGreatDoorGMd5Out
namespace Go.Proofs.YtgkenhmbilkhdaaGreatDoor
open Go.RowKit

set_option maxHeartbeats 2000000 in
theorem isInfo_any (i : Info) (w : World) : Calls Tryz.prog 171 #[.agg (infoVs i)] w fun e w' => e = .returned (.bool i.ok) ∧ Below w.heap.size w w' := by
  obtain ⟨a, b, c, d, r, h, t, n, s⟩ := i
  unfold infoVs Info.ok
  by_cases h1 : 16 ≤ a
  · have g1 : (16 : Int) ≤ (a : Int) := by omega
    by_cases h2 : a ≤ b
    · have g2 : (a : Int) ≤ (b : Int) := by omega
      by_cases h3 : b ≤ 4096
      · have g3 : (b : Int) ≤ 4096 := by omega
        by_cases h4 : 4 ≤ t
        · have g4 : (4 : Int) ≤ (t : Int) := by omega
          by_cases h5 : 0 < r
          · have g5 : (0 : Int) < (r : Int) := by omega
            go_enter Tryz.func171, Tryz.ntmps171
            go_wp2
            go_ret
            exact ⟨by simp [h1, h2, h3, h4, h5], by go_grown⟩
          · obtain rfl : r = 0 := by omega
            go_enter Tryz.func171, Tryz.ntmps171
            go_wp2
            go_ret
            exact ⟨by simp, by go_grown⟩
        · have g4 : ¬ (4 : Int) ≤ (t : Int) := by omega
          go_enter Tryz.func171, Tryz.ntmps171
          go_wp2
          go_ret
          exact ⟨by simp, by go_grown⟩
      · have g3 : ¬ (b : Int) ≤ 4096 := by omega
        go_enter Tryz.func171, Tryz.ntmps171
        go_wp2
        go_ret
        exact ⟨by simp, by go_grown⟩
    · have g2 : ¬ (a : Int) ≤ (b : Int) := by omega
      go_enter Tryz.func171, Tryz.ntmps171
      go_wp2
      go_ret
      exact ⟨by simp, by go_grown⟩
  · have g1 : ¬ (16 : Int) ≤ (a : Int) := by omega
    go_enter Tryz.func171, Tryz.ntmps171
    go_wp2
    go_ret
    exact ⟨by simp, by go_grown⟩

/-- What comes of a part that writes into the decoder. -/
def DPost {α : Type} (res : Except Nat (α × Nat)) (enc : α → Value) (So : α → Nat → World → Prop) (Se : World → Prop) (e : Ending) (w' : World) : Prop :=
  match res with
  | .ok (a, j) => e = .returned (enc a) ∧ So a j w'
  | .error x => e = thrown (stopV x) ∧ Se w'
theorem DPost.ok {α : Type} {res : Except Nat (α × Nat)} {enc : α → Value} {So : α → Nat → World → Prop} {Se : World → Prop} {w' : World} {a : α} {j : Nat} {v : Value} (h : res = .ok (a, j)) (hv : v = enc a) (hs : So a j w') : DPost res enc So Se (.returned v) w' := by
  subst h; subst hv; exact ⟨rfl, hs⟩
theorem DPost.err {α : Type} {res : Except Nat (α × Nat)} {enc : α → Value} {So : α → Nat → World → Prop} {Se : World → Prop} {w' : World} {x : Nat} (h : res = .error x) (hs : Se w') : DPost res enc So Se (thrown (stopV x)) w' := by
  subst h; exact ⟨rfl, hs⟩
theorem DPost.cases {α : Type} {res : Except Nat (α × Nat)} {enc : α → Value} {So : α → Nat → World → Prop} {Se : World → Prop} {e : Ending} {w' : World} (h : DPost res enc So Se e w') :
    (∃ a j, res = .ok (a, j) ∧ e = .returned (enc a) ∧ So a j w') ∨ (∃ x, res = .error x ∧ e = thrown (stopV x) ∧ Se w') := by
  unfold DPost at h
  split at h
  · exact Or.inl ⟨_, _, rfl, h.1, h.2⟩
  · exact Or.inr ⟨_, rfl, h.1, h.2⟩

set_option maxHeartbeats 1000000 in
theorem readMarker_any (C : Cx) (hk : C.k = 0 ∨ C.k = 1) {dp : Nat} {d : DecS} {Bs : List Bk} {pos : Nat} {w : World} (hd : C.B ≤ dp) (h : St C (dB C dp d :: Bs) pos w) :
    Calls Tryz.prog 131 #[.pointer (some ⟨dp, 0, none⟩)] w (DPost (markP C.I pos) (fun _ => .tuple #[]) (fun _ j => St C (dB C dp { d with byte := j / 8 } :: Bs) j) (fun w' => ∃ j, St C (dB C dp d :: Bs) j w')) := by
  have c0 := h.rdV
  obtain ⟨q, hq⟩ : ∃ q, q = markP C.I pos := ⟨_, rfl⟩
  rw [← hq]
  unfold markP at hq
  have HP := hid hq
  have HS := hid h
  clear hq h
  go_enter Tryz.func131, Tryz.ntmps131
  go_wp2_with fail
  refine (inReadI C hk (by omega) (by omega) HS.out).mono ?_
  intro e w1 hP
  rcases hP.cases with ⟨v, j, hr, rfl, hS⟩ | ⟨x, j, hr, rfl, hS⟩
  · replace HP := hid (HP.out.trans (Par.bind_ok hr))
    replace HS := hid hS
    clear hS hP hr
    have hb : ((v : Int) == 1716281667) = decide (v = 1716281667) := by
      rw [Bool.eq_iff_iff]
      simp
      omega
    go_wp2_with fail
    refine (check_any _ 2 (by decide) _).mono ?_
    rintro e w2 ⟨⟨hb, rfl⟩ | ⟨hb, rfl⟩, rfl⟩
    · replace HP := hid (HP.out.trans (Par.check_ok hb))
      go_wp2_with fail
      refine (whole_any C hk hd HS.out).mono ?_
      rintro e w3 ⟨rfl, hS3⟩
      go_wp2
      go_end0
      exact DPost.ok HP.out rfl hS3
    · exact ⟨rfl, DPost.err (HP.out.trans (Par.check_no hb)) ⟨_, HS.out⟩⟩
  · exact ⟨rfl, DPost.err (HP.out.trans (Par.bind_err hr)) ⟨_, hS⟩⟩

theorem meta_len {I : Inp} {i l kd n j : Nat} (h : metaP I i = .ok ((l, kd, n), j)) : n < 16777216 ∧ j = i + 32 := by
  unfold metaP at h
  by_cases h1 : i + 1 ≤ 8 * I.T.length
  · rw [Par.bind_ok (rd_ok h1)] at h
    by_cases h2 : i + 1 + 7 ≤ 8 * I.T.length
    · rw [Par.bind_ok (rd_ok h2)] at h
      by_cases h3 : i + 1 + 7 + 24 ≤ 8 * I.T.length
      · rw [Par.bind_ok (rd_ok h3)] at h
        unfold Par.ret at h
        injection h with h
        injection h with h4 h5
        injection h4 with _ h4
        injection h4 with _ h4
        have := valAt_lt I.T (i + 1 + 7) 24
        omega
      · rw [Par.bind_err (rd_no h3)] at h; cases h
    · rw [Par.bind_err (rd_no h2)] at h; cases h
  · rw [Par.bind_err (rd_no h1)] at h; cases h

set_option maxRecDepth 10000 in
set_option maxHeartbeats 2000000 in
theorem passLater_any (C : Cx) (hk : C.k = 0 ∨ C.k = 1) {dp : Nat} {d : DecS} {Bs : List Bk} {pos : Nat} {w : World} (hd : C.B ≤ dp) (h : St C (dB C dp d :: Bs) pos w) :
    Calls Tryz.prog 133 #[.pointer (some ⟨dp, 0, none⟩)] w (DPost (laterP C.I pos) (fun l => .bool ((l : Int) == 1)) (fun _ j => St C (dB C dp { d with byte := j / 8 } :: Bs) j) (fun w' => ∃ j, St C (dB C dp d :: Bs) j w')) := by
  obtain ⟨q, hq⟩ : ∃ q, q = laterP C.I pos := ⟨_, rfl⟩
  rw [← hq]
  unfold laterP at hq
  have HP := hid hq
  have HS := hid h
  clear hq h
  go_enter Tryz.func133, Tryz.ntmps133
  go_wp2_with fail
  refine (readBlockHead_any C hk HS.out).mono ?_
  intro e w1 hP
  rcases hP.cases with ⟨⟨l, kd, n⟩, j, hr, rfl, hS⟩ | ⟨x, j, hr, rfl, hS⟩
  · replace HP := hid (HP.out.trans (Par.bind_ok hr))
    have hn : n < 16777216 := (meta_len hr).1
    have hS2 := (hS.alloc #[.bool ((l : Int) == 1), .int .i64 (kd : Int), .int .i64 (n : Int)] 298).second
    replace HS := hid hS2
    clear hS hS2 hP hr
    by_cases h0 : kd = 0
    · subst h0
      go_wp2_with fail
      refine (check_any _ 5 (by decide) _).mono ?_
      rintro e w2 ⟨⟨hb, rfl⟩ | ⟨hb, rfl⟩, rfl⟩
      · cases hb
      · exact ⟨rfl, DPost.err (HP.out.trans (Par.bind_err (Par.check_no (by simp)))) ⟨_, HS.out.second.tail⟩⟩
    · have h0' : ((kd : Int) != 0) = true := by simp; omega
      have hb2 : ((kd : Int) != 127) = decide (kd ≠ 127) := by
        rw [Bool.eq_iff_iff]
        simp
        omega
      go_wp2_with fail
      refine (check_any _ 5 (by decide) _).mono ?_
      rintro e w2 ⟨⟨hb, rfl⟩ | ⟨hb, rfl⟩, rfl⟩
      · replace HP := hid (HP.out.trans (Par.bind_ok (Par.check_ok (by simpa [h0] using hb))))
        have hS3 := HS.out.below (w' := (w1.alloc (.cells #[.bool ((l : Int) == 1), .int .i64 (kd : Int), .int .i64 (n : Int)] 298)).drew) (by go_grown)
        replace HS := hid hS3
        have x2 : (w1.alloc (.cells #[.bool ((l : Int) == 1), .int .i64 (kd : Int), .int .i64 (n : Int)] 298)).drew.cell? ⟨w1.heap.size, 2, none⟩ = some (.int .i64 (n : Int)) := hS3.tail.head.cell 2
        clear hS3
        go_wp2
        go_region_held2 (fun w' => w'.cell? ⟨dp, 0, none⟩ = some (rdV C.k C.p) ∧ w'.cell? ⟨w1.heap.size, 2, none⟩ = some (.int .i64 (n : Int))) (exact ⟨HS.out.rdV, HS.out.tail.head.cell 2⟩)
          ((go_at_call 172; refine (inSkip C hk n (by omega) HS.out).mono ?_; intro e w3 hP; rcases hP.cases with ⟨v, j3, hr, rfl, hS⟩ | ⟨x, j3, hr, rfl, hS⟩; rotate_left; exact ⟨rfl, DPost.err (HP.out.trans (Par.bind_err hr)) ⟨_, hS.second.tail⟩⟩; replace HP := hid (HP.out.trans (Par.bind_ok hr)); replace HS := hid hS; clear hS hP hr))
        go_wp2_with fail
        refine (whole_any C hk hd HS.out).mono ?_
        rintro e w4 ⟨rfl, hS4⟩
        have x0 : w4.cell? ⟨w1.heap.size, 0, none⟩ = some (.bool ((l : Int) == 1)) := hS4.tail.head.cell 0
        have HS4 := hid hS4
        clear hS4
        go_wp2
        go_ret
        exact DPost.ok HP.out rfl HS4.out.second.tail
      · exact ⟨rfl, DPost.err (HP.out.trans (Par.bind_err (Par.check_no (by simpa [h0] using hb)))) ⟨_, HS.out.second.tail⟩⟩
  · exact ⟨rfl, DPost.err (HP.out.trans (Par.bind_err hr)) ⟨_, hS⟩⟩
end Go.Proofs.YtgkenhmbilkhdaaGreatDoor

namespace Go.Proofs.YtgkenhmbilkhdaaGreatDoor
open Go.RowKit

def infoL (i : Info) : List Value := [.int .i64 (i.minB : Int), .int .i64 (i.maxB : Int), .int .i64 (i.minF : Int), .int .i64 (i.maxF : Int), .int .i64 (i.rate : Int), .int .i64 (i.chans : Int), .int .i64 (i.depth : Int), .int .i64 (i.total : Int), .string (strOf i.sum)]
theorem dec_info (k p : Nat) (d : DecS) (i : Info) : setFrom (decCells k p d) 6 (infoL i) = decCells k p { d with info := i } := by simp [setFrom, decCells, infoL]
theorem info_one (i : Info) : (infoL i).toArray.all (·.oneCell') = true := all_oneCell_toArray (by
  intro v hv
  simp only [infoL, List.mem_cons, List.mem_nil_iff, or_false] at hv
  rcases hv with rfl | rfl | rfl | rfl | rfl | rfl | rfl | rfl | rfl <;> rfl)
theorem info_size : (Tryz.prog.info? 121).map (·.size) = some 9 := by kernel_rfl
theorem info_range {w : World} {dp k p : Nat} {d : DecS} {t : TypeId} (h : Blk w dp (decCells k p d) t) : w.rangeAt dp 6 (infoL d.info) := by
  refine h.range 6 _ fun j v hv => ?_
  rcases j with _ | _ | _ | _ | _ | _ | _ | _ | _ | j
  all_goals first | exact hv | cases hv

set_option maxRecDepth 10000 in
set_option maxHeartbeats 8000000 in
theorem readFirst_any (C : Cx) (hk : C.k = 0 ∨ C.k = 1) {dp : Nat} {d : DecS} {Bs : List Bk} {pos : Nat} {w : World} (hd : C.B ≤ dp) (h : St C (dB C dp d :: Bs) pos w) :
    Calls Tryz.prog 132 #[.pointer (some ⟨dp, 0, none⟩)] w (DPost (firstP C.I pos) (fun m => .bool ((m.1 : Int) == 1)) (fun m j => St C (dB C dp { d with info := m.2, byte := j / 8 } :: Bs) j) (fun w' => ∃ j i, St C (dB C dp { d with info := i } :: Bs) j w')) := by
  obtain ⟨q, hq⟩ : ∃ q, q = firstP C.I pos := ⟨_, rfl⟩
  rw [← hq]
  unfold firstP at hq
  have HP := hid hq
  have HS := hid h
  have HI := hid info_size
  clear hq h
  go_enter Tryz.func132, Tryz.ntmps132
  go_wp2_with fail
  refine (readBlockHead_any C hk HS.out).mono ?_
  intro e w1 hP
  rcases hP.cases with ⟨⟨l, kd, n⟩, j, hr, rfl, hS⟩ | ⟨x, j, hr, rfl, hS⟩
  · replace HP := hid (HP.out.trans (Par.bind_ok hr))
    have hS2 := (hS.alloc #[.bool ((l : Int) == 1), .int .i64 (kd : Int), .int .i64 (n : Int)] 298).second
    replace HS := hid hS2
    clear hS hS2 hP hr
    by_cases h0 : kd = 0
    · subst h0
      have hb2 : ((n : Int) == 34) = decide (n = 34) := by
        rw [Bool.eq_iff_iff]
        simp
        omega
      go_wp2_with fail
      refine (check_any _ 5 (by decide) _).mono ?_
      rintro e w2 ⟨⟨hb, rfl⟩ | ⟨hb, rfl⟩, rfl⟩
      · replace HP := hid (HP.out.trans (Par.bind_ok (Par.check_ok (by simpa using hb))))
        clear hb hb2
        go_wp2_with fail
        refine (readInfo_any C hk HS.out).mono ?_
        intro e w3 hP
        rcases hP.cases with ⟨i, j3, hr, rfl, hS⟩ | ⟨x, j3, hr, rfl, hS⟩
        · replace HP := hid (HP.out.trans (Par.bind_ok hr))
          replace HS := hid hS
          clear hS hP hr
          go_wp2_with (first
            | (refine wpList_store_st rfl 121 _ _ rfl HS.out hd 6 (infoL i) (Nat.le_of_ble_eq_true rfl) HI.out rfl rfl (info_one i) ?_; intro W hW hsW; rw [dec_info] at hW)
            | (refine wpList_load_mid rfl 121 _ rfl dp 6 rfl (infoL i) _ (info_range hW.head) Tryz.underlying121 rfl HI.out ?_))
          refine (isInfo_any i _).mono ?_
          rintro e w4 ⟨rfl, hb4⟩
          replace HS := hid (show St C (dB C dp { d with info := i } :: _) j3 w4 from hW.below hb4)
          clear hb4 hW hsW
          go_wp2_with fail
          refine (check_any _ 4 (by decide) _).mono ?_
          rintro e w5 ⟨⟨hb, rfl⟩ | ⟨hb, rfl⟩, rfl⟩
          · replace HP := hid (HP.out.trans (Par.bind_ok (Par.check_ok hb)))
            go_wp2_with fail
            refine (whole_any C hk hd HS.out).mono ?_
            rintro e w6 ⟨rfl, hS6⟩
            have x0 : w6.cell? ⟨w1.heap.size, 0, none⟩ = some (.bool ((l : Int) == 1)) := hS6.tail.head.cell 0
            have HS6 := hid hS6
            clear hS6
            go_wp2
            go_ret
            exact DPost.ok HP.out rfl HS6.out.second.tail
          · exact ⟨rfl, DPost.err (HP.out.trans (Par.bind_err (Par.check_no hb))) ⟨_, i, HS.out.second.tail⟩⟩
        · exact ⟨rfl, DPost.err (HP.out.trans (Par.bind_err hr)) ⟨_, d.info, hS.second.tail⟩⟩
      · exact ⟨rfl, DPost.err (HP.out.trans (Par.bind_err (Par.check_no (by simpa using hb)))) ⟨_, d.info, HS.out.second.tail⟩⟩
    · have h0' : ((kd : Int) == 0) = false := by simp; omega
      go_wp2_with fail
      refine (check_any _ 5 (by decide) _).mono ?_
      rintro e w2 ⟨⟨hb, rfl⟩ | ⟨hb, rfl⟩, rfl⟩
      · cases hb
      · exact ⟨rfl, DPost.err (HP.out.trans (Par.bind_err (Par.check_no (by simp [h0])))) ⟨_, d.info, HS.out.second.tail⟩⟩
  · exact ⟨rfl, DPost.err (HP.out.trans (Par.bind_err hr)) ⟨_, d.info, hS⟩⟩
end Go.Proofs.YtgkenhmbilkhdaaGreatDoor

namespace Go.Proofs.YtgkenhmbilkhdaaGreatDoor
open Go.RowKit

def HeadRel (C : Cx) (dp : Nat) (d : DecS) (Bs : List Bk) (gk : Nat) (v : Value) (wr : World) : Prop :=
  (∃ i k, v = .bool true ∧ gk = 0 ∧ openP C.I = .ok (i, k) ∧ Hid (St C (dB C dp { d with info := i, byte := k / 8 } :: Bs) k wr)) ∨
  (∃ i n j, v = .bool false ∧ gk = n ∧ 32 * (C.I.T.length + 1) ≤ j + 32 * n ∧ Hid (openP C.I = afterFirst C.I i n j) ∧ Hid (St C (dB C dp { d with info := i, byte := j / 8 } :: Bs) j wr))

set_option maxHeartbeats 2000000 in
theorem readHead_any (C : Cx) (hk : C.k = 0 ∨ C.k = 1) {dp : Nat} {d : DecS} {Bs : List Bk} {w : World} (hd : C.B ≤ dp) (hd0 : d.byte = 0) (h : St C (dB C dp d :: Bs) 0 w) :
    Calls Tryz.prog 106 #[.pointer (some ⟨dp, 0, none⟩)] w fun e w' =>
      (∃ i k, openP C.I = .ok (i, k) ∧ e = .returned (.tuple #[]) ∧ St C (dB C dp { d with info := i, byte := k / 8 } :: Bs) k w') ∨
      (∃ x a, openP C.I = .error (x, a) ∧ e = thrown (stopV x) ∧ ∃ j i, St C (dB C dp { d with info := i, byte := a } :: Bs) j w') := by
  have HS := hid h
  have hL := h.bounds
  have HD0 := hid hd0
  clear h hd0
  go_enter Tryz.func106, Tryz.ntmps106
  go_wp2_with fail
  refine (readMarker_any C hk hd HS.out).mono ?_
  intro e w1 hP
  rcases hP.cases with ⟨u, j, hr, rfl, hS⟩ | ⟨x, hr, rfl, hS⟩
  · have HM := hid hr
    replace HS := hid hS
    clear hS hP hr
    go_wp2_with fail
    refine (readFirst_any C hk hd HS.out).mono ?_
    intro e w2 hP
    rcases hP.cases with ⟨⟨l, i⟩, j2, hr, rfl, hS⟩ | ⟨x, hr, rfl, hS⟩
    · have HF := hid hr
      replace HS := hid (show St C (dB C dp { d with info := i, byte := j2 / 8 } :: Bs) j2 w2 from hS)
      clear hS hP hr
      go_wp2
      go_loopg [2] (if l = 1 then 0 else C.I.T.length + 1) (fun gk v wr => HeadRel C dp d Bs gk v wr)
      case atStart =>
        by_cases h1 : l = 1
        · subst h1
          exact Or.inl ⟨i, j2, rfl, rfl, open_first_last HM.out HF.out, HS⟩
        · refine Or.inr ⟨i, C.I.T.length + 1, j2, ?_, by rw [if_neg h1], by omega, hid (open_first_more h1 HM.out HF.out), HS⟩
          have : ((l : Int) == 1) = false := by simp; omega
          rw [this]
      case round =>
        clear HM HF HS
        rcases hrel with ⟨i1, k, rfl, rfl, ho, HS⟩ | ⟨i1, n, j1, rfl, rfl, hn, HO, HS⟩
        · have HO := hid ho
          clear ho
          go_wp2
          go_end0
          exact Or.inl ⟨i1, k, HO.out, rfl, HS.out⟩
        · have hb := HS.out.bounds
          obtain ⟨m, rfl⟩ : ∃ m, gk = m + 1 := ⟨gk - 1, by omega⟩
          go_wp2_with fail
          refine (passLater_any C hk hd HS.out).mono ?_
          intro e w3 hP
          rcases hP.cases with ⟨l3, j3, hr, rfl, hS⟩ | ⟨x, hr, rfl, hS⟩
          · have hpos := later_pos hr
            replace HS := hid (show St C (dB C dp { d with info := i1, byte := j3 / 8 } :: Bs) j3 w3 from hS)
            have HR := hid hr
            clear hS hP hr
            go_wp2
            go_roundg (if l3 = 1 then 0 else m)
            case measure => split <;> omega
            case rel =>
              by_cases h1 : l3 = 1
              · subst h1
                exact Or.inl ⟨i1, j3, rfl, rfl, HO.out.trans (after_last HR.out), HS⟩
              · refine Or.inr ⟨i1, m, j3, ?_, by rw [if_neg h1], by omega, hid (HO.out.trans (after_more h1 HR.out)), HS⟩
                have : ((l3 : Int) == 1) = false := by simp; omega
                rw [this]
          · obtain ⟨j3, hS⟩ := hS
            exact ⟨rfl, Or.inr ⟨x, _, HO.out.trans (after_err hr), rfl, j3, i1, hS⟩⟩
    · obtain ⟨j2, i, hS⟩ := hS
      exact ⟨rfl, Or.inr ⟨x, _, open_first_err HM.out hr, rfl, j2, i, hS⟩⟩
  · obtain ⟨j, hS⟩ := hS
    refine ⟨rfl, Or.inr ⟨x, 0, open_mark_err hr, rfl, j, d.info, ?_⟩⟩
    rw [← HD0.out]
    exact hS
end Go.Proofs.YtgkenhmbilkhdaaGreatDoor
