import Derived.Test.YtgkenhmbilkhdaaGreatDoorFeed
import Derived.Test.YtgkenhmbilkhdaaGreatDoorPar
import Derived.Test.YtgkenhmbilkhdaaGreatDoorErrs
namespace Go.Proofs.YtgkenhmbilkhdaaGreatDoor
open Go.RowKit

/-- A source as it was handed in. -/
structure Src where
  s : ByteArray
  pv : Value
  P : List Int
  br : Int

def stopV (st : Nat) : Value := if st = 16 then .iface 203 (.int .i64 1) else .iface 188 (.int .i64 st)

/-- What stands in a reader, but for its place. -/
structure RdS where
  hv : Value
  gone : Nat
  came : Nat
  stop : Value
  a : Nat
  left : Nat
  k : Nat

structure RdX (w : World) (B p c : Nat) (t : TypeId) (ex : List Value) (S : Src) (I : Inp) (pos : Nat) (mk : Bool) (mark : Nat) (r : RdS) : Prop where
  blk : Blk w p (rdCells c r.hv r.gone r.stop pos mk mark ex) t
  tt : t ≠ 5 ∧ t ≠ 84
  row : RowAt w B r.hv ((I.T.take r.came).drop r.gone)
  src : Blk w c (srcCells S.s S.pv S.br r.a r.left r.k) 84
  ints : IntsAt w B S.pv S.P
  geB : B ≤ c ∧ B ≤ p ∧ B ≤ w.heap.size
  small : S.s.size ≤ 1048576 ∧ S.P.length ≤ 1048576 ∧ (∀ x ∈ S.P, -9223372036854775808 ≤ x ∧ x < 9223372036854775808) ∧ S.br < 9223372036854775808
  sok : SrcOk S.s.size S.br r.a ∧ r.left < 9223372036854775808 ∧ r.k ≤ S.P.length
  text : I.T = (bytesOf S.s).take I.T.length
  le : r.gone ≤ r.came ∧ r.came ≤ I.T.length
  st : I.st = 1 ∨ I.st = 14 ∨ I.st = 16
  stop : (r.stop = .nilIface ∧ r.came = r.a ∧ srcRes S.s.size S.br S.P r.a r.left r.k 0 = (I.T.length, I.st)) ∨ (r.stop = stopV I.st ∧ r.came = I.T.length)

theorem RdX.len {w : World} {B p c : Nat} {t : TypeId} {ex : List Value} {S : Src} {I : Inp} {pos : Nat} {mk : Bool} {mark : Nat} {r : RdS} (h : RdX w B p c t ex S I pos mk mark r) : I.T.length ≤ S.s.size ∧ I.T.length ≤ 1048576 := by
  have h1 := congrArg List.length h.text
  rw [List.length_take, bytesOf_len] at h1
  have := h.small.1
  omega
theorem RdX.rowlen {w : World} {B p c : Nat} {t : TypeId} {ex : List Value} {S : Src} {I : Inp} {pos : Nat} {mk : Bool} {mark : Nat} {r : RdS} (h : RdX w B p c t ex S I pos mk mark r) : ((I.T.take r.came).drop r.gone).length = r.came - r.gone := by
  rw [List.length_drop, List.length_take]
  have := h.le
  omega
theorem RdX.apart {w : World} {B p c : Nat} {t : TypeId} {ex : List Value} {S : Src} {I : Inp} {pos : Nat} {mk : Bool} {mark : Nat} {r : RdS} (h : RdX w B p c t ex S I pos mk mark r) : p ≠ c ∧ p ∉ rowX r.hv ∧ c ∉ rowX r.hv :=
  ⟨h.blk.ne h.src h.tt.2, h.row.ne h.blk h.tt.1, h.row.ne h.src (by decide)⟩
theorem RdX.next {w w' : World} {B p c : Nat} {t : TypeId} {ex : List Value} {S : Src} {I : Inp} {pos : Nat} {mk : Bool} {mark : Nat} {r r' : RdS} {X : List Nat} {ex' : List Value} {pos' : Nat} {mk' : Bool} {mark' : Nat} (h : RdX w B p c t ex S I pos mk mark r) (hK : KeptX X w w') (hX : ∀ i ∈ X, B ≤ i)
    (hb : Blk w' p (rdCells c r'.hv r'.gone r'.stop pos' mk' mark' ex') t) (hr : RowAt w' B r'.hv ((I.T.take r'.came).drop r'.gone)) (hs : Blk w' c (srcCells S.s S.pv S.br r'.a r'.left r'.k) 84) (hok : SrcOk S.s.size S.br r'.a ∧ r'.left < 9223372036854775808 ∧ r'.k ≤ S.P.length)
    (hle : r'.gone ≤ r'.came ∧ r'.came ≤ I.T.length) (hst : (r'.stop = .nilIface ∧ r'.came = r'.a ∧ srcRes S.s.size S.br S.P r'.a r'.left r'.k 0 = (I.T.length, I.st)) ∨ (r'.stop = stopV I.st ∧ r'.came = I.T.length)) : RdX w' B p c t ex' S I pos' mk' mark' r' :=
  ⟨hb, h.tt, hr, hs, h.ints.below (hK.below hX h.geB.2.2), ⟨h.geB.1, h.geB.2.1, Nat.le_trans h.geB.2.2 hK.size⟩, h.small, hok, h.text, hle, h.st, hst⟩
theorem RdX.foot {w : World} {B p c : Nat} {t : TypeId} {ex : List Value} {S : Src} {I : Inp} {pos : Nat} {mk : Bool} {mark : Nat} {r : RdS} (h : RdX w B p c t ex S I pos mk mark r) : ∀ i ∈ p :: c :: rowX r.hv, B ≤ i := by
  intro i hi
  simp at hi
  rcases hi with rfl | rfl | hi
  · exact h.geB.2.1
  · exact h.geB.1
  · exact (h.row.ge i hi).1
theorem stop_ne (st : Nat) : stopV st ≠ .nilIface := by unfold stopV; split <;> simp

/-- The bytes that come next. -/
theorem next_bytes {s : ByteArray} {T : List Nat} {gone a m : Nat} (hT : T = (bytesOf s).take T.length) (hg : gone ≤ a) (ha : a + m ≤ T.length) : ((T.take a).drop gone) ++ bytesOf (s.extract a (a + m)) = (T.take (a + m)).drop gone := by
  have e1 : bytesOf (s.extract a (a + m)) = ((bytesOf s).take (a + m)).drop a := by
    unfold bytesOf
    rw [ByteArray.data_extract, Array.toList_extract]
    simp [List.drop_take]
  have e2 : (bytesOf s).take (a + m) = T.take (a + m) := by
    rw [hT, List.take_take, Nat.min_eq_left]
    exact ha
  have hl : (T.take a).length = a := by rw [List.length_take]; omega
  have e3 : T.take (a + m) = T.take a ++ (T.take (a + m)).drop a := by
    have := (List.take_append_drop a (T.take (a + m))).symm
    rwa [List.take_take, Nat.min_eq_left (by omega)] at this
  rw [e1, e2]
  conv => rhs; rw [e3, List.drop_append_of_le_length (by omega)]

def MoreRel (w : World) (p c : Nat) (t : TypeId) (ex : List Value) (S : Src) (I : Inp) (pos : Nat) (mk : Bool) (mark : Nat) (r : RdS) (gk : Nat) (v : Value) (wr : World) : Prop :=
  ∃ (m left' k' : Nat) (stop' : Value), v = .int .i64 m ∧ KeptX [p, c] w wr ∧ Blk wr p (rdCells c r.hv r.gone stop' pos mk mark ex) t ∧ Blk wr c (srcCells S.s S.pv S.br r.a left' k') 84 ∧ left' < 9223372036854775808 ∧ k' ≤ S.P.length ∧
    ((stop' = .nilIface ∧ m ≤ 8 ∧ gk = 10 - m ∧ Hid (srcRes S.s.size S.br S.P r.a left' k' m = (I.T.length, I.st))) ∨ (stop' = stopV I.st ∧ gk = 0 ∧ r.came = I.T.length))

set_option maxHeartbeats 4000000 in
set_option maxRecDepth 10000 in
theorem more_set (B p c : Nat) (t : TypeId) (ex : List Value) (S : Src) (I : Inp) (pos : Nat) (mk : Bool) (mark : Nat) (r : RdS) (keep : Nat) (w : World) (h : RdX w B p c t ex S I pos mk mark r) (hs : r.stop = stopV I.st) :
    Calls Tryz.prog 312 #[.pointer (some ⟨p, 0, none⟩), .int .i64 keep] w fun e w' => e = .returned (stopV I.st) ∧ w' = w := by
  obtain ⟨c0, c1, c2, c3, c4, c5, c6⟩ := rd_c0 h.blk
  rw [hs] at c3
  have hst := h.st
  clear h
  unfold stopV at *
  rcases hst with h1 | h1 | h1 <;> rw [h1] at c3 ⊢ <;> simp at c3 ⊢
  all_goals
    go_enter Tryz.func312, Tryz.ntmps312
    go_wp2
    refine wp_loop_rounds 1 ?_
    rw [rounds_succ]
    go_wp2
    go_ret
    exact ⟨rfl, rfl⟩

theorem more_stop {w w1 : World} {p c : Nat} {t : TypeId} {ex : List Value} {S : Src} {I : Inp} {pos : Nat} {mk : Bool} {mark : Nat} {r : RdS} {l1 k1 : Nat} {stop : Value} (m1 : Nat) (v : Value) (x : Int) (hx : x = ((m1 : Nat) : Int)) (hv : v = stopV I.st) (hf : r.came = I.T.length) (hpc : p ≠ c) (hK : KeptX [p, c] w w1) (hB : Blk w1 p (rdCells c r.hv r.gone stop pos mk mark ex) t) (hC : Blk w1 c (srcCells S.s S.pv S.br r.a l1 k1) 84) (hl : l1 < 9223372036854775808) (hk : k1 ≤ S.P.length) :
    MoreRel w p c t ex S I pos mk mark r 0 (.int .i64 x) (w1.setCell ⟨p, 3, none⟩ v) := by
  have hB' := hB.set 3 v
  rw [rd_stop] at hB'
  exact ⟨m1, l1, k1, v, by rw [hx], hK.setCell (by simp) 3 v, hB', hC.other (p := ⟨p, 3, none⟩) hpc.symm v, hl, hk, Or.inr ⟨hv, rfl, hf⟩⟩
theorem stopV_1 : stopV 1 = .iface 188 (.int .i64 1) := rfl
theorem stopV_14 : stopV 14 = .iface 188 (.int .i64 14) := rfl
theorem stopV_16 : stopV 16 = .iface 203 (.int .i64 1) := rfl
theorem text_ne {s : ByteArray} {a m : Nat} (h0 : 0 < m) (h : a + m ≤ s.size) : ((s.extract a (a + m)).toList == []) = false := by
  rw [ByteArray.toList_eq]
  simp
  omega

/-- What 'more' does. -/
def MorePost (w : World) (B p c : Nat) (t : TypeId) (ex : List Value) (S : Src) (I : Inp) (pos : Nat) (mk : Bool) (mark : Nat) (r : RdS) (keep : Nat) (e : Ending) (w' : World) : Prop :=
  ∃ r', KeptX (p :: c :: rowX r.hv) w w' ∧ RdX w' B p c t ex S I pos mk mark r' ∧ (∀ g ∈ rowX r'.hv, g ∈ rowX r.hv ∨ w.heap.size ≤ g) ∧ r'.gone ≤ keep ∧
    ((e = .returned .nilIface ∧ r.came < r'.came) ∨ (e = .returned (stopV I.st) ∧ r.came = I.T.length ∧ r'.came = r.came ∧ r'.stop = stopV I.st))

set_option maxHeartbeats 8000000 in
set_option maxRecDepth 10000 in
theorem more_nil (B p c : Nat) (t : TypeId) (ex : List Value) (S : Src) (I : Inp) (pos : Nat) (mk : Bool) (mark : Nat) (r : RdS) (keep : Nat) (w : World) (h : RdX w B p c t ex S I pos mk mark r) (hs : r.stop = .nilIface) (hca : r.came = r.a) (hres : srcRes S.s.size S.br S.P r.a r.left r.k 0 = (I.T.length, I.st)) (h1 : r.gone ≤ keep) (h2 : keep ≤ r.came) :
    Calls Tryz.prog 312 #[.pointer (some ⟨p, 0, none⟩), .int .i64 keep] w fun e w' => MorePost w B p c t ex S I pos mk mark r keep e w' := by
  have HX := hid h
  have hpc := h.apart.1
  have hst := h.st
  have HT := hid h.text
  have HRES := hid hres
  have hbl := h.blk
  have hsr := h.src
  have hl := h.sok.2.1
  have hkP := h.sok.2.2
  clear h hres
  go_enter Tryz.func312, Tryz.ntmps312
  go_wp2
  go_loopg [5] 10 (fun gk v wr => MoreRel w p c t ex S I pos mk mark r gk v wr)
  case atStart => exact ⟨0, r.left, r.k, .nilIface, rfl, KeptX.refl _ _, by rw [← hs]; exact hbl, hsr, hl, hkP, Or.inl ⟨rfl, by omega, rfl, HRES⟩⟩
  case round =>
    obtain ⟨m, left', k', stop', rfl, hK, hB, hC, hl', hk', hcase⟩ := hrel
    obtain ⟨c0, c1, c2, c3, c4, c5, c6⟩ := rd_c0 hB
    have f3 := hB.free 3
    rcases hcase with ⟨rfl, hm8, hgk, HR⟩ | ⟨rfl, hgk, hfull⟩
    · have hm8' : (m : Int) ≤ 8 := by omega
      unfold srcV at c0
      go_wp2_with fail
      have hkB : KeptX [p, c] w wr := hK
      refine (srcRead c S.s S.pv S.P S.br r.a left' k' HX.out.small.1 wr hC B HX.out.geB.1 (HX.out.ints.below (hK.below (by have := HX.out.geB; simp; omega) HX.out.geB.2.2)) HX.out.sok.1 hl' hk' HX.out.small.2.1 HX.out.small.2.2.1 HX.out.small.2.2.2).mono ?_
      rintro e w1 ⟨a1, l1, k1, hK1, hC1, hok1, hl1, hk1, hres⟩
      have hB1 := hK1.blk hB (by simpa using hpc)
      have hK1' : KeptX [p, c] w w1 := hK.trans hK1 (fun i hi => hi) (fun i _ hi => by simp at hi ⊢; omega)
      obtain ⟨d0, d1, d2, d3, d4, d5, d6⟩ := rd_c0 hB1
      have g3 := hB1.free 3
      clear c0 c1 c2 c3 c4 c5 c6 f3
      rcases hres with ⟨rfl, rfl, hn⟩ | ⟨rfl, rfl, hn⟩ | ⟨rfl, rfl, hn, hn8⟩ | ⟨q, rfl, hq0, hq5, rfl, hn⟩
      · have hx := (HR.out.symm.trans (hn m))
        have HXX := hid hx
        clear hn hx
        go_wp2
        go_roundg 0
        case measure => omega
        case rel =>
          have e1 := congrArg Prod.fst HXX.out
          have e2 := congrArg Prod.snd HXX.out
          simp only at e1 e2
          exact more_stop (m + 1) _ _ (by omega) (by rw [e2]; exact stopV_16.symm) (by omega) hpc hK1' hB1 hC1 hl1 hk1
      · have hx := (HR.out.symm.trans (hn m))
        have HXX := hid hx
        clear hn hx
        go_wp2
        go_roundg 0
        case measure => omega
        case rel =>
          have e1 := congrArg Prod.fst HXX.out
          have e2 := congrArg Prod.snd HXX.out
          simp only at e1 e2
          exact more_stop (m + 1) _ _ (by omega) (by rw [e2]; exact stopV_1.symm) (by omega) hpc hK1' hB1 hC1 hl1 hk1
      · by_cases h8 : m = 8
        · subst h8
          have HXX := hid (HR.out.symm.trans hn8)
          clear hn hn8
          go_wp2
          go_roundg 0
          case measure => omega
          case rel =>
            have e1 := congrArg Prod.fst HXX.out
            have e2 := congrArg Prod.snd HXX.out
            simp only at e1 e2
            exact more_stop 9 _ _ (by omega) (by rw [e2]; exact stopV_14.symm) (by omega) hpc hK1' hB1 hC1 hl1 hk1
        · have h8' : ((m : Int) == 8) = false := by simp; omega
          have HN := hid ((hn m (by omega)).trans HR.out)
          clear hn hn8
          go_wp2
          go_roundg (10 - (m + 1))
          case measure => omega
          case rel => exact ⟨m + 1, l1, k1, .nilIface, by go_num, hK1', hB1, hC1, hl1, hk1, Or.inl ⟨rfl, by omega, rfl, HN⟩⟩
      · have hres' := (hn m).trans HR.out
        have hge := (res_ge (P := S.P) (left := l1) (k := k1) (e := 0) hok1)
        rw [hres'] at hge
        have hqs := hge.1
        have hqN := hge.2
        simp only at hqs hqN
        have hne := text_ne (s := S.s) (a := r.a) hq0 (by omega)
        have HN := hid hres'
        clear hn hres' hge
        go_wp2_with fail
        have hrow1 : RowAt w1 B r.hv ((I.T.take r.came).drop r.gone) := HX.out.row.keep hK1' (by
          intro g hg hx
          have h3 := HX.out.apart
          simp at hx
          rcases hx with rfl | rfl
          · exact h3.2.1 hg
          · exact h3.2.2 hg)
        have hlen := HX.out.rowlen
        have hlen2 := HX.out.len
        refine (letGo B p c t r.hv r.gone keep .nilIface pos mk mark ex _ w1 hB1 HX.out.tt.1 hrow1 h1 (by rw [hlen]; omega) (by rw [hlen]; omega)).mono ?_
        rintro e w2 ⟨hv2, rfl, hK2, hB2, hR2, hx2⟩
        obtain ⟨z0, z1, z2, z3, z4, z5, z6⟩ := rd_c0 hB2
        clear d0 d1 d2 d3 d4 d5 d6
        have HPX : Hid (p ∉ rowX hv2) := by
          show p ∉ rowX hv2
          rw [hx2]
          exact HX.out.apart.2.1
        have HR2 := hid hR2
        have HL2 : Hid ((((I.T.take r.came).drop r.gone).drop (keep - r.gone)).length + (S.s.extract r.a (r.a + q)).size ≤ 140737488355328) := by
          show _ ≤ _
          rw [List.length_drop, hlen, ByteArray.size_extract]
          omega
        have HB2 : Hid (B ≤ w2.heap.size) := Nat.le_trans (Nat.le_trans HX.out.geB.2.2 hK1'.size) hK2.size
        go_wp2_with (refine wpList_text rfl (.tmp 38) (.tmp 39) rfl B hv2 _ rfl HR2.out _ rfl HL2.out HB2.out ?_; intro ap3 n3 cap3 w3 hR3 hK3 hfr; have hB3 := hK3.blk hB2 HPX.out; have y1 := (rd_c0 hB3).2.1; have y2 := hB3.free 1)
        have hB4 := hB3.set 1 (.slice ap3 n3 cap3)
        rw [rd_have] at hB4
        go_ret
        have hKall : KeptX (p :: c :: rowX r.hv) w (w3.setCell ⟨p, 1, none⟩ (.slice ap3 n3 cap3)) := by
          have e1 : KeptX (p :: c :: rowX r.hv) w w2 := hK1'.trans hK2 (fun i hi => by simp at hi ⊢; omega) (fun i _ hi => by simp at hi ⊢; rcases hi with h | h <;> simp [h])
          have e2 : KeptX (p :: c :: rowX r.hv) w w3 := e1.trans hK3 (fun i hi => hi) (fun i _ hi => by rw [hx2] at hi; simp [hi])
          exact e2.setCell (by simp) 1 _
        refine ⟨⟨.slice ap3 n3 cap3, keep, r.a + q, .nilIface, r.a + q, l1, k1⟩, ?_, ?_, ?_, Nat.le_refl _, Or.inl ⟨rfl, by show r.came < r.a + q; omega⟩⟩
        · exact hKall
        · refine HX.out.next hKall HX.out.foot hB4 ?_ ?_ ⟨hok1, hl1, hk1⟩ ⟨by show keep ≤ r.a + q; omega, hqs⟩ (Or.inl ⟨rfl, rfl, HN.out⟩)
          · have hrow := hR3.out
            rw [List.drop_drop, show r.gone + (keep - r.gone) = keep by omega, hca, next_bytes HT.out (by omega) hqs] at hrow
            exact hrow.keep (X := [p]) ((KeptX.refl _ _).setCell (by simp) 1 _) (fun g hg hx => by
              have := hrow.ne hB3 HX.out.tt.1
              simp at hx
              subst hx
              exact this hg)
          · have h3 := HX.out.apart
            have e2 := hK2.blk hC1 (by simp; exact ⟨hpc.symm, h3.2.2⟩)
            have e3 := hK3.blk e2 (by rw [hx2]; exact h3.2.2)
            exact e3.other (p := ⟨p, 1, none⟩) hpc.symm _
        · intro g hg
          rcases hfr.out g hg with h4 | h4
          · left; rw [← hx2]; exact h4
          · right; exact Nat.le_trans (Nat.le_trans hK1'.size hK2.size) h4
    · have HF := hid hfull
      have hBB := hB
      clear hfull
      unfold stopV at c3
      rcases hst with e1 | e1 | e1 <;> rw [e1] at c3 <;> simp at c3
      all_goals
        go_wp2
        go_ret
        refine ⟨⟨r.hv, r.gone, r.came, stopV I.st, r.a, left', k'⟩, ?_, ?_, ?_, h1, Or.inr ⟨by rw [e1]; rfl, HF.out, rfl, rfl⟩⟩
        · exact hK.mono (fun i hi => by simp at hi ⊢; omega)
        · refine HX.out.next hK (fun i hi => HX.out.foot i (by simp at hi ⊢; omega)) hBB ?_ hC ⟨HX.out.sok.1, hl', hk'⟩ HX.out.le (Or.inr ⟨rfl, HF.out⟩)
          refine HX.out.row.keep hK (fun g hg hx => ?_)
          have h3 := HX.out.apart
          simp at hx
          rcases hx with rfl | rfl
          · exact h3.2.1 hg
          · exact h3.2.2 hg
        · intro g hg
          exact Or.inl hg

theorem more_any (B p c : Nat) (t : TypeId) (ex : List Value) (S : Src) (I : Inp) (pos : Nat) (mk : Bool) (mark : Nat) (r : RdS) (keep : Nat) (w : World) (h : RdX w B p c t ex S I pos mk mark r) (h1 : r.gone ≤ keep) (h2 : keep ≤ r.came) :
    Calls Tryz.prog 312 #[.pointer (some ⟨p, 0, none⟩), .int .i64 keep] w fun e w' => MorePost w B p c t ex S I pos mk mark r keep e w' := by
  rcases h.stop with ⟨e1, e2, e3⟩ | ⟨e1, e2⟩
  · exact more_nil B p c t ex S I pos mk mark r keep w h e1 e2 e3 h1 h2
  · refine (more_set B p c t ex S I pos mk mark r keep w h e1).mono ?_
    rintro e w' ⟨rfl, rfl⟩
    exact ⟨r, KeptX.refl _ _, h, fun g hg => Or.inl hg, h1, Or.inr ⟨rfl, e2, rfl, e1⟩⟩
end Go.Proofs.YtgkenhmbilkhdaaGreatDoor

namespace Go.Proofs.YtgkenhmbilkhdaaGreatDoor
open Go.RowKit

set_option maxHeartbeats 2000000 in
theorem is0_AA (j k : Int) (w : World) :
    Calls Tryz.prog 75 #[.iface 188 (.int .i64 j), .iface 188 (.int .i64 k)] w fun e w' => e = .returned (.bool (j == k)) ∧ w' = w := by
  have tT := typeOfA
  have cT := comparableA
  have mR := methodComparable
  have nA := noIsA
  have uA := noUnA
  have vA := noUnsA
  have heq := Lib.run_eql_iface_int (P := Tryz.prog) (k := .i64) w j k Tryz.underlying78 (tx := 188) (by kernel_rfl) Tryz.underlying188
  cases hjk : (j == k)
  all_goals
    rw [hjk] at heq
    go_enter Tryz.func75, Tryz.ntmps75
    go_wp2
    refine wp_loop_rounds 1 ?_
    rw [rounds_succ]
    go_wp2
    go_ret
    exact ⟨rfl, rfl⟩
set_option maxHeartbeats 2000000 in
theorem is0_PA (j k : Int) (w : World) :
    Calls Tryz.prog 75 #[.iface 203 (.int .i64 j), .iface 188 (.int .i64 k)] w fun e w' => e = .returned (.bool false) ∧ w' = w := by
  have tT := typeOfA
  have cT := comparableA
  have mR := methodComparable
  have nA := noIsP
  have uA := noUnP
  have vA := noUnsP
  have hty' := run_eql_iface_types (P := Tryz.prog) 203 188 (.int .i64 j) (.int .i64 k) Tryz.underlying78 (by decide) w
  go_enter Tryz.func75, Tryz.ntmps75
  go_wp2
  refine wp_loop_rounds 1 ?_
  rw [rounds_succ]
  go_wp2
  go_ret
  exact ⟨rfl, rfl⟩
end Go.Proofs.YtgkenhmbilkhdaaGreatDoor
