import Derived.Test.YtgkenhmbilkhdaaGreatDoorGAttempt
import Derived.Test.YtgkenhmbilkhdaaGreatDoorGDec2
namespace Go.Proofs.YtgkenhmbilkhdaaGreatDoor
open Go.RowKit

theorem RdX.rebase {w : World} {B B' p c : Nat} {t : TypeId} {ex : List Value} {S : Src} {I : Inp} {pos : Nat} {mk : Bool} {mark : Nat} {r : RdS} (h : RdX w B p c t ex S I pos mk mark r) (hB : B' ≤ B) (hi : IntsAt w B' S.pv S.P) : RdX w B' p c t ex S I pos mk mark r := by
  refine ⟨h.blk, h.tt, ?_, h.src, hi, ⟨Nat.le_trans hB h.geB.1, Nat.le_trans hB h.geB.2.1, Nat.le_trans hB h.geB.2.2⟩, h.small, h.sok, h.text, h.le, h.st, h.stop⟩
  rcases h.row with h1 | ⟨g, cap, cur, h1, h2, h3⟩
  · exact Or.inl h1
  · exact Or.inr ⟨g, cap, cur, h1, Nat.le_trans hB h2, h3⟩
theorem RdK.rebase {k : Nat} {w : World} {B B' p c : Nat} {S : Src} {I : Inp} {pos : Nat} {mk : Bool} {mark : Nat} {r : RdS} (h : RdK k w B p c S I pos mk mark r) (hB : B' ≤ B) (hi : IntsAt w B' S.pv S.P) : RdK k w B' p c S I pos mk mark r := by
  unfold RdK at h ⊢
  split at h
  · rename_i h0
    rw [if_pos h0]
    exact ⟨h.x.rebase hB hi, h.le, h.keep, h.mark⟩
  · rename_i h0
    rw [if_neg h0]
    obtain ⟨pool, held, h, hE⟩ := h
    exact ⟨pool, held, ⟨h.x.rebase hB hi, h.le, h.keep, h.mark⟩, hE⟩
/-- From an earlier world on. -/
theorem St.rebase {C : Cx} {Bs : List Bk} {pos : Nat} {w w0 : World} {B : Nat} (h : St C Bs pos w) (hB : B ≤ C.B) (hb : Below B w0 C.w0) (hi : IntsAt w0 B C.S.pv C.S.P) : St { C with B := B, w0 := w0 } Bs pos w := by
  obtain ⟨r, h1, hR, hn, hx⟩ := h
  have hb2 : Below B w0 w := hb.trans (h1.mono hB)
  exact ⟨r, hb2, hR.rebase hB (hi.below hb2), hn, hx⟩
/-- One block more. -/
theorem St.add {C : Cx} {Bs : List Bk} {pos : Nat} {w : World} (h : St C Bs pos w) {b : Nat} {cs : Array Value} {t : TypeId} (hb : Blk w b cs t) (h1 : t ≠ 279) (h2 : t ≠ 277) (h3 : t ≠ 84) (h4 : t ≠ 5) (ht : ∀ x ∈ Bs, x.t ≠ t) : St C (⟨b, cs, t⟩ :: Bs) pos w := by
  obtain ⟨r, h0, hR, hn, hx⟩ := h
  refine ⟨r, h0, hR, ?_, fun x hm => ?_⟩
  · rw [List.map_cons, List.nodup_cons]
    refine ⟨fun hm => ?_, hn⟩
    obtain ⟨y, hy, hye⟩ := List.mem_map.1 hm
    exact (hx y hy).1.ne hb (ht y hy) hye
  · rcases List.mem_cons.1 hm with rfl | hm
    · exact ⟨hb, hR.far hb h1 h2 h3 h4⟩
    · exact hx x hm

theorem fault_any (HI : ItoaAll) (b x : Nat) (h1 : 1 ≤ x) (h16 : x ≤ 16) (f : Int) (hf : ItoaOk f) (a : Nat) (ha : a ≤ 1048576) (w : World) (hG : Ground0 w) (hE : ErrAt b f (a : Int) (stopV x) w) :
    Calls Tryz.prog 36 #[errP b] w fun e w' => e = .returned (faultV (x : Int) f (a : Int)) ∧ Below w.heap.size w w' := by
  by_cases hx : x = 16
  · subst hx
    exact fault_P b f a hf (HI a ha) w hG.1 hG.2 hE
  · unfold stopV at hE
    rw [if_neg hx] at hE
    exact fault_A b x h1 (by omega) f a hf (HI a ha) w hG.1 hG.2 hE

set_option maxHeartbeats 1000000 in
theorem flacOpen_yes (k : Nat) (hk : k = 0 ∨ k = 1) {w0 w : World} {B c : Nat} {S : Src} (hb0 : Below B w0 w) (hs : SrcAt w B c S) :
    Calls Tryz.prog 38 #[srcV c, .int .i64 (k : Int)] w fun e w' =>
      (∃ i pos dp, openP (SrcI S) = .ok (i, pos) ∧ e = .returned (.tuple #[.iface 167 (.pointer (some ⟨dp, 0, none⟩)), .nilIface]) ∧ Opened w0 B k c S dp i pos w') ∨
      (∃ x a b, openP (SrcI S) = .error (x, a) ∧ e = .returned (.tuple #[.nilIface, errP b]) ∧ B ≤ b ∧ ErrAt b (-1) (a : Int) (stopV x) w' ∧ Below B w0 w') := by
  have HK := hid (fun W => kind_yes (k : Int) (by omega) W)
  have HO := hid (streamOpen_any k hk hb0 hs)
  clear hb0 hs
  unfold srcV at *
  go_enter Tryz.func38, Tryz.ntmps38
  go_wp2_with fail
  refine (HK.out _).mono ?_
  rintro e w1 ⟨rfl, rfl⟩
  go_wp2_with fail
  refine HO.out.mono ?_
  rintro e w2 (⟨i, pos, dp, ho, rfl, hO⟩ | ⟨x, a, b, ho, rfl, hB, hE, hb⟩)
  · have H1 := hid (And.intro ho hO)
    clear ho hO
    go_wp2
    refine bodyPost_ret (v := .tuple #[.iface 167 (.pointer (some ⟨dp, 0, none⟩)), .nilIface]) (by simp [results, Tryz.results38, go_sem]) rfl ?_
    exact Or.inl ⟨i, pos, dp, H1.out.1, rfl, H1.out.2⟩
  · have H1 := hid (And.intro ho (And.intro hB (And.intro hE hb)))
    clear ho hB hE hb
    unfold errP at *
    go_wp2
    refine bodyPost_ret (v := .tuple #[.nilIface, errP b]) (by simp [results, Tryz.results38, go_sem, errP]) rfl ?_
    exact Or.inr ⟨x, a, b, H1.out.1, rfl, H1.out.2.1, H1.out.2.2.1, H1.out.2.2.2⟩
end Go.Proofs.YtgkenhmbilkhdaaGreatDoor

namespace Go.Proofs.YtgkenhmbilkhdaaGreatDoor
open Go.RowKit

def pdCells (dp c : Nat) : Array Value := #[.iface 167 (.pointer (some ⟨dp, 0, none⟩)), .pointer (some ⟨c, 0, none⟩)]
/-- A decoder of package plain, opened in world w. -/
def POpened (w : World) (k : Nat) (S : Src) (db : Nat) (i : Info) (pos : Nat) (w' : World) : Prop :=
  ∃ dp c p v xs md bl, WaysIs k p v xs ∧ bl.length = 64 ∧ (∀ x ∈ bl, x < 256) ∧ w.heap.size ≤ dp ∧ w.heap.size ≤ md ∧ w.heap.size ≤ db ∧
    St (cx k w.heap.size p c S w) (⟨db, pdCells dp c, 96⟩ :: dB (cx k w.heap.size p c S w) dp { dec0 v md with info := i, byte := pos / 8, frame := 0 } :: mdB md [] bl :: xs) pos w'
theorem WaysIs.types {k p : Nat} {v : Array Value} {xs : List Bk} (h : WaysIs k p v xs) : ∀ x ∈ xs, x.t = 219 ∨ x.t = 214 ∨ x.t = 246 := by
  intro x hx
  rcases h with ⟨_, ib, _, rfl⟩ | ⟨_, rx, ib, tb, _, rfl⟩
  · simp only [List.mem_cons, List.mem_nil_iff, or_false] at hx
    subst hx
    exact Or.inl rfl
  · simp only [List.mem_cons, List.mem_nil_iff, or_false] at hx
    rcases hx with rfl | rfl | rfl
    · exact Or.inr (Or.inl rfl)
    · exact Or.inl rfl
    · exact Or.inr (Or.inr rfl)

set_option maxHeartbeats 4000000 in
set_option maxRecDepth 10000 in
theorem plainOpen_yes (HI : ItoaAll) (k : Nat) (hk : k = 0 ∨ k = 1) (s : ByteArray) (ap : Option Addr) (cap : Nat) (br : Int) (P : List Int) (w : World) (hs : s.size ≤ 1048576) (hP20 : P.length ≤ 1048576) (hpi : ∀ x ∈ P, -9223372036854775808 ≤ x ∧ x < 9223372036854775808) (hbr : br < 9223372036854775808) (hG : Ground0 w) (hP : IntsAt w w.heap.size (.slice ap P.length cap) P) :
    Calls Tryz.prog 16 #[.agg #[.string s, .slice ap P.length cap, .int .i64 br], .int .i64 (k : Int)] w fun e w' =>
      (∃ i pos db, openP (SrcI ⟨s, .slice ap P.length cap, P, br⟩) = .ok (i, pos) ∧ e = .returned (.tuple #[.pointer (some ⟨db, 0, none⟩), faultV 0 0 0]) ∧ POpened w k ⟨s, .slice ap P.length cap, P, br⟩ db i pos w') ∨
      (∃ x a : Nat, openP (SrcI ⟨s, .slice ap P.length cap, P, br⟩) = .error (x, a) ∧ e = .returned (.tuple #[.pointer none, faultV (x : Int) (-1) (a : Int)]) ∧ Below w.heap.size w w') := by
  have hk1 : (k : Int) ≤ 1 := by omega
  obtain ⟨wc, HWC⟩ : ∃ wc, Hid (wc = ((w.alloc (.cells #[.string s, .slice ap P.length cap, .int .i64 br] 24)).alloc (.cells #[.int .i64 0, .int .i64 0, .int .i64 0] 26)).alloc (.cells (srcCells s (.slice ap P.length cap) br 0 0 0) 84)) := ⟨_, rfl⟩
  have e2 : ∀ (a b : Obj), ((w.alloc a).alloc b).heap.size = w.heap.size + 1 + 1 := fun a b => by rw [World.size_alloc, World.size_alloc]
  have hszc : wc.heap.size = w.heap.size + 1 + 1 + 1 := by rw [HWC.out, World.size_alloc, e2]
  have hbc : Below w.heap.size w wc := by rw [HWC.out]; go_grown
  have hR : Blk wc (w.heap.size + 1) #[.int .i64 0, .int .i64 0, .int .i64 0] 26 := by
    rw [HWC.out]
    have h := Blk.new (w.alloc (.cells #[.string s, .slice ap P.length cap, .int .i64 br] 24)) #[.int .i64 0, .int .i64 0, .int .i64 0] 26
    rw [World.size_alloc] at h
    exact h.alloc _
  have hC : Blk wc (w.heap.size + 1 + 1) (srcCells s (.slice ap P.length cap) br 0 0 0) 84 := by
    rw [HWC.out]
    have h := Blk.new ((w.alloc (.cells #[.string s, .slice ap P.length cap, .int .i64 br] 24)).alloc (.cells #[.int .i64 0, .int .i64 0, .int .i64 0] 26)) (srcCells s (.slice ap P.length cap) br 0 0 0) 84
    rw [e2] at h
    exact h
  have hPc : IntsAt wc (w.heap.size + 1 + 1) (.slice ap P.length cap) P := by
    rcases hP.below hbc with h | ⟨g, off, cp, hg, hv, hc⟩
    · exact Or.inl h
    · exact Or.inr ⟨g, off, cp, by omega, hv, hc⟩
  have hF := flacOpen_yes k hk (w0 := wc) (w := wc) (B := w.heap.size + 1 + 1) (c := w.heap.size + 1 + 1) (S := ⟨s, .slice ap P.length cap, P, br⟩) (Below.refl _ _) ⟨hC, hPc, ⟨by omega, by omega⟩, hs, hP20, hpi, hbr⟩
  unfold srcV at hF
  have HF := hid (fun (W : World) (h : W = wc) => Eq.mpr (congrArg (fun V => Calls Tryz.prog 38 _ V _) h) hF)
  have HR := hid hR
  have HBC := hid hbc
  have HP := hid hP
  have HST : Hid ((SrcI ⟨s, .slice ap P.length cap, P, br⟩).st = 1 ∨ (SrcI ⟨s, .slice ap P.length cap, P, br⟩).st = 14 ∨ (SrcI ⟨s, .slice ap P.length cap, P, br⟩).st = 16) := of_stop P 0 0
  have HLN : Hid ((SrcI ⟨s, .slice ap P.length cap, P, br⟩).T.length ≤ 1048576) := Nat.le_trans (inp_len s P br).2 hs
  clear e2 hR hC hPc hbc hP hF
  go_enter Tryz.func16, Tryz.ntmps16
  go_wp2_with fail
  refine (HF.out _ (by rw [HWC.out]; rfl)).mono ?_
  rintro e w1 (⟨i, pos, dp, ho, rfl, hO⟩ | ⟨x, a, b, ho, rfl, hBb, hE, hb⟩)
  · have HO := hid ho
    obtain ⟨p, v, xs, md, bl, hW, h64, h256, hdp, hmd, hS⟩ := hO
    have hbw1 : Below (w.heap.size + 1 + 1) wc w1 := hS.bounds.2.2.2.2
    have hR1 := HR.out.below hbw1 (by omega)
    have hS1 : St (cx k w.heap.size p (w.heap.size + 1 + 1) ⟨s, .slice ap P.length cap, P, br⟩ w) _ pos w1 := hS.rebase (B := w.heap.size) (w0 := w) (by show w.heap.size ≤ w.heap.size + 1 + 1; omega) HBC.out HP.out
    have hty := hW.types
    have hS2 := hS1.add hR1 (by decide) (by decide) (by decide) (by decide) (by
      intro x hx
      rcases List.mem_cons.1 hx with rfl | hx
      · show 226 ≠ 26; decide
      rcases List.mem_cons.1 hx with rfl | hx
      · show 197 ≠ 26; decide
      rcases hty x hx with h | h | h <;> rw [h] <;> decide)
    have HS2 := hid hS2
    have HWI := hid hW
    have HBL := hid (And.intro h64 h256)
    clear ho hW h64 h256 hS hS1 hS2 hbw1 hR1 hty HF HR
    go_wp2_with fail
    refine (fault_nil _).mono ?_
    rintro e w2 ⟨rfl, hb2⟩
    have hS3 := HS2.out.below hb2
    have hR2 := hS3.head
    have hl2 := hR2.lt
    obtain ⟨⟨y0, y1, y2⟩, ⟨z0, z1, z2⟩, g⟩ := put_fault hR2 0 0 0
    have hn : w2.heap.size ≠ w.heap.size + 1 := by omega
    have hn2 : w2.heap.size + 1 ≠ w.heap.size + 1 := by omega
    have hlt1 : w.heap.size + 1 < w2.heap.size := by omega
    have hlt2 : w.heap.size + 1 < w2.heap.size + 1 := by omega
    have HS3 := hid hS3
    clear hS3 hR2 HS2
    go_wp2
    have hS4 := ((((HS3.out.set (by show w.heap.size ≤ w.heap.size + 1; omega) 0 (.int .i64 0)).set (by show w.heap.size ≤ w.heap.size + 1; omega) 1 (.int .i64 0)).set (by show w.heap.size ≤ w.heap.size + 1; omega) 2 (.int .i64 0)).alloc #[.int .i64 0, .int .i64 0, .int .i64 0] 26).tail.alloc (pdCells dp (w.heap.size + 1 + 1)) 96
    simp only [World.size_alloc, World.size_setCell] at hS4
    have hRf := hS4.tail.head
    have e0 := hRf.cell 0
    have e1 := hRf.cell 1
    have e2 := hRf.cell 2
    simp at e0 e1 e2
    unfold pdCells at e0 e1 e2
    refine bodyPost_ret (v := .tuple #[.pointer (some ⟨w2.heap.size + 1, 0, none⟩), faultV 0 0 0]) (by simp [results, Tryz.results16, go_sem, faultV, e0, e1, e2]) rfl ?_
    exact Or.inl ⟨i, pos, w2.heap.size + 1, HO.out, rfl, dp, w.heap.size + 1 + 1, p, v, xs, md, bl, HWI.out, HBL.out.1, HBL.out.2, by omega, by omega, by omega, hS4.second.tail⟩
  · obtain ⟨hx1, hx16, ha⟩ := open_err HST.out ho
    have HO := hid ho
    have hlen := HLN.out
    have hbw1 : Below (w.heap.size + 1 + 1) wc w1 := hb
    have hb0 : Below w.heap.size w w1 := HBC.out.trans (hbw1.mono (by omega))
    have hR1 := HR.out.below hbw1 (by omega)
    have HFA := hid (fault_any HI b x (by omega) hx16 (-1) itoa_neg1 a (by omega) w1 (hG.below hb0) hE)
    clear ho hE hb hbw1 HF HR
    have hx0 : ((x : Int) != 0) = true := by simp; omega
    unfold errP faultV at *
    go_wp2_with fail
    refine HFA.out.mono ?_
    rintro e w2 ⟨rfl, hb2⟩
    have hb3 := hb0.trans (hb2.mono hb0.size)
    have hR2 := hR1.below hb2 hR1.lt
    have hlt := hR2.lt
    have hy0 := hR2.cell 0
    have hy1 := hR2.cell 1
    have hy2 := hR2.cell 2
    have hz0 := hR2.free 0
    have hz1 := hR2.free 1
    have hz2 := hR2.free 2
    simp at hy0 hy1 hy2
    have hn : w2.heap.size ≠ w.heap.size + 1 := by omega
    have hr := cell_far hn
    clear HFA
    go_wp2
    go_region
    go_wp2
    have g := ((hR2.set 0 (.int .i64 x)).set 1 (.int .i64 (-1))).set 2 (.int .i64 a)
    have g0 := (hR2.set 0 (.int .i64 x)).cell 0
    have g1 := ((hR2.set 0 (.int .i64 x)).set 1 (.int .i64 (-1))).cell 1
    have g2 := g.cell 2
    simp at g0 g1 g2
    refine bodyPost_ret (v := .tuple #[.pointer none, .agg #[.int .i64 x, .int .i64 (-1), .int .i64 a]]) (by simp [results, Tryz.results16, go_sem, g0, g1, g2, hlt]) rfl ?_
    exact Or.inr ⟨x, a, HO.out, rfl, ((((hb3.setCell (p := ⟨w.heap.size + 1, 0, none⟩) (by simp) _).setCell (p := ⟨w.heap.size + 1, 1, none⟩) (by simp) _).setCell (p := ⟨w.heap.size + 1, 2, none⟩) (by simp) _).alloc (by simp; omega) _).drew⟩
end Go.Proofs.YtgkenhmbilkhdaaGreatDoor

namespace Go.Proofs.YtgkenhmbilkhdaaGreatDoor
open Go.RowKit

theorem setFrom_info (i : Info) : setFrom #[Value.int .i64 0, .int .i64 0, .int .i64 0, .int .i64 0, .int .i64 0, .int .i64 0, .int .i64 0, .int .i64 0, .string ⟨#[]⟩] 0 (infoL i) = infoVs i := setFrom_all _ (infoL i) rfl

set_option maxRecDepth 10000 in
theorem sdInfo (k p dp : Nat) (d : DecS) (w : World) (hD : Blk w dp (decCells k p d) 226) :
    Calls Tryz.prog 252 #[.pointer (some ⟨dp, 0, none⟩)] w fun e w' => e = .returned (.agg (infoVs d.info)) ∧ Below w.heap.size w w' := by
  have HI := hid info_size
  have HD := hid (hD.alloc (.cells #[.int .i64 0, .int .i64 0, .int .i64 0, .int .i64 0, .int .i64 0, .int .i64 0, .int .i64 0, .int .i64 0, .string ⟨#[]⟩] 121))
  have HN := hid (Blk.new w #[.int .i64 0, .int .i64 0, .int .i64 0, .int .i64 0, .int .i64 0, .int .i64 0, .int .i64 0, .int .i64 0, .string ⟨#[]⟩] 121)
  have HB : Hid (Below w.heap.size w (w.alloc (.cells #[.int .i64 0, .int .i64 0, .int .i64 0, .int .i64 0, .int .i64 0, .int .i64 0, .int .i64 0, .int .i64 0, .string ⟨#[]⟩] 121))) := by show Below _ _ _; go_grown
  clear hD
  go_enter Tryz.func252, Tryz.ntmps252
  go_wp2_with (first
    | (refine wpList_load_mid rfl 121 _ rfl dp 6 rfl (infoL d.info) _ (info_range HD.out) Tryz.underlying121 rfl HI.out ?_)
    | (refine wpList_store_blk rfl 121 _ _ rfl HN.out 0 (infoL d.info) (Nat.le_of_ble_eq_true rfl) HI.out rfl rfl (info_one _) ?_; intro W2 hK2 hW2))
  rw [setFrom_info] at hW2
  have HW2 := hid hW2
  have HK2 := hid hK2
  clear hW2 hK2
  go_wp2
  refine bodyPost_ret (results_cell_row Tryz.results252 _ _ w.heap.size _ _ _ _ rfl HW2.out Tryz.underlying121 rfl HI.out) rfl ?_
  exact ⟨rfl, HB.out.trans (HK2.out.below (by simp) (by rw [World.size_alloc]; omega))⟩

set_option maxRecDepth 10000 in
theorem pdInfo (k p dp c db : Nat) (d : DecS) (w : World) (hP : Blk w db (pdCells dp c) 96) (hD : Blk w dp (decCells k p d) 226) :
    Calls Tryz.prog 52 #[.pointer (some ⟨db, 0, none⟩)] w fun e w' => e = .returned (.agg (infoVs d.info)) ∧ Below w.heap.size w w' := by
  have HI := hid info_size
  have hP' := hP.alloc (.cells #[.int .i64 0, .int .i64 0, .int .i64 0, .int .i64 0, .int .i64 0, .int .i64 0, .int .i64 0, .int .i64 0, .string ⟨#[]⟩] 121)
  have c0 : (w.alloc (.cells #[.int .i64 0, .int .i64 0, .int .i64 0, .int .i64 0, .int .i64 0, .int .i64 0, .int .i64 0, .int .i64 0, .string ⟨#[]⟩] 121)).cell? ⟨db, 0, none⟩ = some (.iface 167 (.pointer (some ⟨dp, 0, none⟩))) := hP'.cell 0
  have HC := hid (sdInfo k p dp d _ (hD.alloc (.cells #[.int .i64 0, .int .i64 0, .int .i64 0, .int .i64 0, .int .i64 0, .int .i64 0, .int .i64 0, .int .i64 0, .string ⟨#[]⟩] 121)))
  have HN := hid (Blk.new w #[.int .i64 0, .int .i64 0, .int .i64 0, .int .i64 0, .int .i64 0, .int .i64 0, .int .i64 0, .int .i64 0, .string ⟨#[]⟩] 121)
  have HB : Hid (Below w.heap.size w (w.alloc (.cells #[.int .i64 0, .int .i64 0, .int .i64 0, .int .i64 0, .int .i64 0, .int .i64 0, .int .i64 0, .int .i64 0, .string ⟨#[]⟩] 121))) := by show Below _ _ _; go_grown
  clear hP hP' hD
  go_enter Tryz.func52, Tryz.ntmps52
  go_wp2_with fail
  refine HC.out.mono ?_
  rintro e w1 ⟨rfl, hb1⟩
  have hN1 := HN.out.below hb1 (by rw [World.size_alloc]; omega)
  have HN1 := hid hN1
  have HB1 := hid hb1
  clear hN1 hb1 HC c0
  go_wp2_with (refine wpList_store_blk rfl 121 _ _ rfl HN1.out 0 (infoL d.info) (Nat.le_of_ble_eq_true rfl) HI.out rfl rfl (info_one _) ?_; intro W2 hK2 hW2)
  rw [setFrom_info] at hW2
  have HW2 := hid hW2
  have HK2 := hid hK2
  clear hW2 hK2
  go_wp2
  refine bodyPost_ret (results_cell_row Tryz.results52 _ _ w.heap.size _ _ _ _ rfl HW2.out Tryz.underlying121 rfl HI.out) rfl ?_
  have hb01 := HB.out.trans (HB1.out.mono HB.out.size)
  exact ⟨rfl, hb01.trans (HK2.out.below (by simp) hb01.size)⟩

theorem pdAt (k p dp c db : Nat) (d : DecS) (w : World) (hP : Blk w db (pdCells dp c) 96) (hD : Blk w dp (decCells k p d) 226) :
    Calls Tryz.prog 53 #[.pointer (some ⟨db, 0, none⟩)] w fun e w' => e = .returned (.int .i64 (d.byte : Int)) ∧ w' = w := by
  have c0 : w.cell? ⟨db, 0, none⟩ = some (.iface 167 (.pointer (some ⟨dp, 0, none⟩))) := hP.cell 0
  have c16 : w.cell? ⟨dp, 16, none⟩ = some (.int .i64 (d.byte : Int)) := hD.cell 16
  clear hP hD
  go_enter Tryz.func53, Tryz.ntmps53
  go_wp2
  go_ret
  exact ⟨rfl, rfl⟩

theorem pdOdd (dp c db : Nat) {C : Cx} (hc : C.c = c) {Bs : List Bk} {pos : Nat} (w : World) (hP : Blk w db (pdCells dp c) 96) (hS : St C Bs pos w) :
    Calls Tryz.prog 54 #[.pointer (some ⟨db, 0, none⟩)] w fun e w' => e = .returned (.bool false) ∧ w' = w := by
  obtain ⟨r, hR, _⟩ := hS.use
  obtain ⟨t, ex, hX, _⟩ := hR.x
  have c1 : w.cell? ⟨db, 1, none⟩ = some (.pointer (some ⟨c, 0, none⟩)) := hP.cell 1
  have c6 : w.cell? ⟨C.c, 6, none⟩ = some (.bool false) := hX.x.src.cell 6
  rw [hc] at c6
  clear hP hS hR hX
  go_enter Tryz.func54, Tryz.ntmps54
  go_wp2
  go_ret
  exact ⟨rfl, rfl⟩
end Go.Proofs.YtgkenhmbilkhdaaGreatDoor
