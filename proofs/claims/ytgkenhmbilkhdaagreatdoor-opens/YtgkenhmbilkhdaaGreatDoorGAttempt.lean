import Derived.Test.YtgkenhmbilkhdaaGreatDoorGSkOpen
import Derived.Defers
import Derived.Recover
import Derived.Stop.Asserts
import Derived.Test.YtgkenhmbilkhdaaGreatDoorNewWays2
import Derived.Test.YtgkenhmbilkhdaaGreatDoorGDec5
import Derived.Test.YtgkenhmbilkhdaaGreatDoorGRefuse
namespace Go.Proofs.YtgkenhmbilkhdaaGreatDoor
open Go.RowKit

theorem catch_tmps (b : Nat) : (#[Value.pointer (some ⟨b, 0, none⟩)] ++ Array.replicate (Tryz.f130.ntmps - #[Value.pointer (some ⟨b, 0, none⟩)].size) undef) = #[.pointer (some ⟨b, 0, none⟩), undef, undef, undef, undef, undef, undef, undef, undef, undef, undef, undef] := by
  rw [Tryz.ntmps130]
  rfl

theorem catch_idle (b : Nat) (w : World) :
    CallsD Tryz.prog 130 #[.pointer (some ⟨b, 0, none⟩)] .returning w fun e u' w' => e = .returned (.tuple #[]) ∧ u' = .returning ∧ w' = w := by
  have hnn : ∀ w : World, (binOp .eql 20 .nilIface .nilIface).run Tryz.prog w = .ok (.bool true) w := fun _ => by kernel_rfl
  refine callsD_of_wpS Tryz.func130 rfl fun c₀ cs hu => ?_
  rw [catch_tmps]
  apply wpS_seq
  apply wpS_region
  simp [wpOpsS, go_sem, recoverD, hu, Exit.thenS]
  refine wpS_of_wp ?_
  go_wp2
  cases c₀
  simp_all [bodyPostS, results, Tryz.results130]

set_option maxRecDepth 10000 in
theorem catch_fault (b : Nat) (T : TypeId) (v : Value) (older : List PanicEntry) (w : World) (h : Blk w b #[.nilIface] 78) :
    CallsD Tryz.prog 130 #[.pointer (some ⟨b, 0, none⟩)] (.panicking ({ v := .iface 282 (.agg #[.iface T v]), recovered := false } :: older)) w fun e u' w' =>
      e = .returned (.tuple #[]) ∧ u' = .panicking ({ v := .iface 282 (.agg #[.iface T v]), recovered := true } :: older) ∧ w' = (w.setCell ⟨b, 0, none⟩ (.iface T v)).alloc (.cells #[.iface T v] 282) := by
  have hta : ∀ w : World, (Instr.typeAssert (.iface 282 (.agg #[.iface T v])) 20 282 true).run Tryz.prog w = .ok (.tuple #[.agg #[.iface T v], .bool true]) w := fun _ => by kernel_rfl
  have hlt := h.lt
  have c0 : (w.alloc (.cells #[.iface T v] 282)).cell? ⟨b, 0, none⟩ = some .nilIface := (h.alloc _).cell 0
  have f0 : (w.alloc (.cells #[.iface T v] 282)).frozen? ⟨b, 0, none⟩ = false := (h.alloc _).free 0
  refine callsD_of_wpS Tryz.func130 rfl fun c₀ cs hu => ?_
  rw [catch_tmps]
  apply wpS_seq
  apply wpS_region
  simp [wpOpsS, go_sem, recoverD, hu, Exit.thenS]
  refine wpS_of_wp ?_
  go_wp2
  cases c₀
  simp_all [bodyPostS, results, Tryz.results130]

/-- 'attempt(d.readHead)'. -/
theorem attempt_head (dp : Nat) (w : World) (R : Ending → World → Prop) (H : Calls Tryz.prog 106 #[.pointer (some ⟨dp, 0, none⟩)] (w.alloc (.cells #[.nilIface] 78)) R)
    (hR : ∀ e w1, R e w1 → Blk w1 w.heap.size #[.nilIface] 78 ∧ (e = .returned (.tuple #[]) ∨ ∃ T v, e = thrown (.iface T v))) :
    Calls Tryz.prog 105 #[.func (.func 106) #[.pointer (some ⟨dp, 0, none⟩)] #[]] w fun e w' => ∃ w1, (R (.returned (.tuple #[])) w1 ∧ e = .returned .nilIface ∧ w' = w1.setCell ⟨w.heap.size, 0, none⟩ .nilIface) ∨
      (∃ T v, R (thrown (.iface T v)) w1 ∧ e = .returned (.iface T v) ∧ w' = (w1.setCell ⟨w.heap.size, 0, none⟩ (.iface T v)).alloc (.cells #[.iface T v] 282)) := by
  have hmf : ∀ (fn : Fn) (first cap : Array Value) (w : World), (Instr.makeFunc fn first cap).run Tryz.prog w = .ok (.func fn first cap) w := fun _ _ _ _ => rfl
  have HH := hid H
  have HR := hid hR
  clear H hR
  go_enter_defers Tryz.func105, Tryz.ntmps105
  go_wp2_with fail
  refine HH.out.mono ?_
  intro e w1 h1
  obtain ⟨hB, rfl | ⟨T, v, rfl⟩⟩ := HR.out e w1 h1
  · have H1 := hid h1
    have c0 : w1.cell? ⟨w.heap.size, 0, none⟩ = some .nilIface := hB.cell 0
    have f0 := hB.free 0
    have y0 : (w1.setCell ⟨w.heap.size, 0, none⟩ .nilIface).cell? ⟨w.heap.size, 0, none⟩ = some .nilIface := (hB.set 0 _).cell 0
    clear h1
    go_wp2
    refine leaves_cons (f := 130) (args := #[.pointer (some ⟨w.heap.size, 0, none⟩)]) (by simp) (by simp [go_sem]) ?_
    refine (catch_idle w.heap.size _).mono ?_
    rintro e u' w'' ⟨rfl, rfl, rfl⟩
    simp [Leaves, settle, results, Tryz.results105, go_sem, y0]
    exact ⟨w1, H1.out, rfl⟩
  · have H1 := hid h1
    have y0 : ((w1.setCell ⟨w.heap.size, 0, none⟩ (.iface T v)).alloc (.cells #[.iface T v] 282)).cell? ⟨w.heap.size, 0, none⟩ = some (.iface T v) := ((hB.set 0 _).alloc _).cell 0
    clear h1
    unfold thrown
    refine leaves_cons (f := 130) (args := #[.pointer (some ⟨w.heap.size, 0, none⟩)]) (by simp) (by simp [go_sem]) ?_
    refine (catch_fault w.heap.size T v [] _ hB).mono ?_
    rintro e u' w'' ⟨rfl, rfl, rfl⟩
    simp [Leaves, settle, results, Tryz.results105, go_sem, y0]
    exact ⟨w1, T, v, H1.out, ⟨rfl, rfl⟩, rfl⟩
end Go.Proofs.YtgkenhmbilkhdaaGreatDoor

namespace Go.Proofs.YtgkenhmbilkhdaaGreatDoor
open Go.RowKit

theorem WaysIs.size {k p : Nat} {v : Array Value} {xs : List Bk} (h : WaysIs k p v xs) : v.size = 6 ∧ v.all (·.oneCell') = true := by
  rcases h with ⟨_, ib, rfl, _⟩ | ⟨_, rx, ib, tb, rfl, _⟩
  · exact ⟨rfl, all_oneCell_toArray (ways_one _ _ _ _ _ _ _ _ _ _ _ _ _ _ _ _)⟩
  · exact ⟨rfl, all_oneCell_toArray (ways_one _ _ _ _ _ _ _ _ _ _ _ _ _ _ _ _)⟩

set_option maxHeartbeats 1000000 in
set_option maxRecDepth 10000 in
theorem waysOf_any (k : Nat) (hk : k = 0 ∨ k = 1) (c : Nat) (w : World) : Calls Tryz.prog 104 #[srcV c, .int .i64 (k : Int)] w fun e w' => WaysPost k c w e w' := by
  have hb0 : Below w.heap.size w (w.alloc (.cells #[.nilIface, .nilIface, .nilFunc, .nilFunc, .nilFunc, .nilFunc] 223)) := by go_grown
  have hN := Blk.new w #[.nilIface, .nilIface, .nilFunc, .nilFunc, .nilFunc, .nilFunc] 223
  rcases hk with rfl | rfl
  · have HC := hid (slowWays_any c (w.alloc (.cells #[.nilIface, .nilIface, .nilFunc, .nilFunc, .nilFunc, .nilFunc] 223)))
    unfold srcV at *
    go_enter Tryz.func104, Tryz.ntmps104
    go_wp2_with fail
    refine HC.out.mono ?_
    rintro e w1 ⟨p, v, xs, rfl, hW, hb, hB, hp, hn, hxs⟩
    obtain ⟨hs, h1⟩ := hW.size
    obtain ⟨L, rfl⟩ : ∃ L : List Value, v = L.toArray := ⟨v.toList, by simp⟩
    rw [List.size_toArray] at hs
    have hR := hN.below hb (by rw [World.size_alloc]; omega)
    rw [World.size_alloc] at hb hp hxs
    have HA := hid (And.intro hW (And.intro hb (And.intro hB (And.intro hp (And.intro hn hxs)))))
    have HR := hid hR
    have HI : Hid ((Tryz.prog.info? 223).map (·.size) = some L.length) := by rw [hs]; exact ways_size
    have HL : Hid (0 + L.length ≤ 6) := by show _ ≤ _; omega
    have HL6 := hid hs
    have H1 := hid h1
    clear hW hb hB hp hn hxs hR hs h1
    go_wp2_with (refine wpList_store_blk rfl 223 _ _ rfl HR.out 0 L HL.out HI.out rfl rfl H1.out ?_; intro W2 hK2 hW2)
    rw [setFrom_all _ _ (by rw [HL6.out]; rfl)] at hW2
    have HW2 := hid hW2
    have HK2 := hid hK2
    clear hW2 hK2
    go_wp2
    refine bodyPost_ret (results_cell_row Tryz.results104 _ _ w.heap.size _ _ _ _ rfl HW2.out Tryz.underlying223 rfl (by rw [List.size_toArray]; exact HI.out)) rfl ?_
    obtain ⟨hW, hb, hB, hp, hn, hxs⟩ := HA.out
    refine ⟨p, L.toArray, xs, rfl, hW, (hb0.trans (hb.mono (by omega))).trans (HK2.out.below (by simp) (Nat.le_trans (by have := hb0.size; omega) hb.size)), HK2.out.blk hB (by simp; omega), by omega, hn, fun x hx => ?_⟩
    have := hxs x hx
    exact ⟨HK2.out.blk this.1 (by simp; omega), by omega⟩
  · have HC := hid (fastWays_any c (w.alloc (.cells #[.nilIface, .nilIface, .nilFunc, .nilFunc, .nilFunc, .nilFunc] 223)))
    unfold srcV at *
    go_enter Tryz.func104, Tryz.ntmps104
    go_wp2_with fail
    refine HC.out.mono ?_
    rintro e w1 ⟨p, v, xs, rfl, hW, hb, hB, hp, hn, hxs⟩
    obtain ⟨hs, h1⟩ := hW.size
    obtain ⟨L, rfl⟩ : ∃ L : List Value, v = L.toArray := ⟨v.toList, by simp⟩
    rw [List.size_toArray] at hs
    have hR := hN.below hb (by rw [World.size_alloc]; omega)
    rw [World.size_alloc] at hb hp hxs
    have HA := hid (And.intro hW (And.intro hb (And.intro hB (And.intro hp (And.intro hn hxs)))))
    have HR := hid hR
    have HI : Hid ((Tryz.prog.info? 223).map (·.size) = some L.length) := by rw [hs]; exact ways_size
    have HL : Hid (0 + L.length ≤ 6) := by show _ ≤ _; omega
    have HL6 := hid hs
    have H1 := hid h1
    clear hW hb hB hp hn hxs hR hs h1
    go_wp2_with (refine wpList_store_blk rfl 223 _ _ rfl HR.out 0 L HL.out HI.out rfl rfl H1.out ?_; intro W2 hK2 hW2)
    rw [setFrom_all _ _ (by rw [HL6.out]; rfl)] at hW2
    have HW2 := hid hW2
    have HK2 := hid hK2
    clear hW2 hK2
    go_wp2
    refine bodyPost_ret (results_cell_row Tryz.results104 _ _ w.heap.size _ _ _ _ rfl HW2.out Tryz.underlying223 rfl (by rw [List.size_toArray]; exact HI.out)) rfl ?_
    obtain ⟨hW, hb, hB, hp, hn, hxs⟩ := HA.out
    refine ⟨p, L.toArray, xs, rfl, hW, (hb0.trans (hb.mono (by omega))).trans (HK2.out.below (by simp) (Nat.le_trans (by have := hb0.size; omega) hb.size)), HK2.out.blk hB (by simp; omega), by omega, hn, fun x hx => ?_⟩
    have := hxs x hx
    exact ⟨HK2.out.blk this.1 (by simp; omega), by omega⟩
end Go.Proofs.YtgkenhmbilkhdaaGreatDoor

namespace Go.Proofs.YtgkenhmbilkhdaaGreatDoor
open Go.RowKit

theorem placed_any (dp : Nat) (frame : Int) (byte : Nat) (T : TypeId) (v : Value) (w : World) (c15 : w.cell? ⟨dp, 15, none⟩ = some (.int .i64 frame)) (c16 : w.cell? ⟨dp, 16, none⟩ = some (.int .i64 (byte : Int))) :
    Calls Tryz.prog 107 #[.pointer (some ⟨dp, 0, none⟩), .iface T v] w fun e w' => e = .returned (errP w.heap.size) ∧ Below w.heap.size w w' ∧ ErrAt w.heap.size frame (byte : Int) (.iface T v) w' := by
  have d15 : w.drew.cell? ⟨dp, 15, none⟩ = some (.int .i64 frame) := c15
  have d16 : w.drew.cell? ⟨dp, 16, none⟩ = some (.int .i64 (byte : Int)) := c16
  go_enter Tryz.func107, Tryz.ntmps107
  go_wp2
  go_region_held2 (fun w' => w'.cell? ⟨dp, 15, none⟩ = some (.int .i64 frame) ∧ w'.cell? ⟨dp, 16, none⟩ = some (.int .i64 (byte : Int))) (first | exact ⟨d15, d16⟩ | go_keep) (fail)
  go_wp2
  go_ret
  exact ⟨rfl, by go_grown, by simp [ErrAt]⟩

/-- A source that has been handed in. -/
structure SrcAt (w : World) (B c : Nat) (S : Src) : Prop where
  blk : Blk w c (srcCells S.s S.pv S.br 0 0 0) 84
  ints : IntsAt w B S.pv S.P
  ge : B ≤ c ∧ B ≤ w.heap.size
  small : S.s.size ≤ 1048576 ∧ S.P.length ≤ 1048576 ∧ (∀ x ∈ S.P, -9223372036854775808 ≤ x ∧ x < 9223372036854775808) ∧ S.br < 9223372036854775808
def SrcI (S : Src) : Inp := inpOf S.s S.P S.br
def cx (k B p c : Nat) (S : Src) (w0 : World) : Cx := ⟨k, B, p, c, S, SrcI S, false, 0, w0⟩
def info0 : Info := ⟨0, 0, 0, 0, 0, 0, 0, 0, []⟩
def dec0 (v : Array Value) (md : Nat) : DecS := ⟨v.getD 1 .nilIface, v.getD 2 .nilFunc, v.getD 3 .nilFunc, v.getD 4 .nilFunc, v.getD 5 .nilFunc, info0, -1, 0, false, 0, md, .nilIface⟩
def mdB (md : Nat) (l bl : List Nat) : Bk := ⟨md, mdCells (Go.Proofs.YtgkenhmbilkhdaaGreatDoor.md l (l.length / 64)) bl l.length, 197⟩

theorem St.make {C : Cx} {Bs : List Bk} {pos : Nat} {w : World} {r : RdS} (hb : Below C.B C.w0 w) (hR : RdK C.k w C.B C.p C.c C.S C.I pos C.mkd C.mark r) (hn : (Bs.map Bk.b).Nodup) (hB : ∀ x ∈ Bs, Blk w x.b x.cs x.t ∧ x.b ∉ C.p :: C.c :: rowX r.hv) : St C Bs pos w := ⟨r, hb, hR, hn, hB⟩

/-- A decoder that has read the head. -/
def Opened (w0 : World) (B k c : Nat) (S : Src) (dp : Nat) (i : Info) (pos : Nat) (w' : World) : Prop :=
  ∃ p v xs md bl, WaysIs k p v xs ∧ bl.length = 64 ∧ (∀ x ∈ bl, x < 256) ∧ B ≤ dp ∧ B ≤ md ∧ St (cx k B p c S w0) (dB (cx k B p c S w0) dp { dec0 v md with info := i, byte := pos / 8, frame := 0 } :: mdB md [] bl :: xs) pos w'
def OpenPost (w0 : World) (B k c : Nat) (S : Src) (_ : World) (e : Ending) (w' : World) : Prop :=
  (∃ i pos dp, openP (SrcI S) = .ok (i, pos) ∧ e = .returned (.tuple #[.pointer (some ⟨dp, 0, none⟩), .nilIface]) ∧ Opened w0 B k c S dp i pos w') ∨
  (∃ x a b, openP (SrcI S) = .error (x, a) ∧ e = .returned (.tuple #[.pointer none, errP b]) ∧ B ≤ b ∧ ErrAt b (-1) (a : Int) (stopV x) w' ∧ Below B w0 w')

/-- All that stands when the head is read. -/
theorem open_start {w0 w w1 w2 : World} {B k c : Nat} {S : Src} (hk : k = 0 ∨ k = 1) {p : Nat} {xs : List Bk} (hb0 : Below B w0 w) (hs : SrcAt w B c S) (hb1 : Below w.heap.size w w1) (hp : Blk w1 p (rdNew k c) (rdT2 k)) (hpg : w.heap.size ≤ p) (hn : (p :: xs.map Bk.b).Nodup) (hxs : ∀ x ∈ xs, Blk w1 x.b x.cs x.t ∧ w.heap.size ≤ x.b)
    (hb2 : Below w1.heap.size w1 w2) (hmd : MdAt w2 w1.heap.size []) :
    ∃ bl, bl.length = 64 ∧ (∀ x ∈ bl, x < 256) ∧ St (cx k B p c S w0) (mdB w1.heap.size [] bl :: xs) 0 w2 := by
  obtain ⟨bl, h64, h256, _, hB⟩ := hmd
  refine ⟨bl, h64, h256, ?_⟩
  have hcl := hs.blk.lt
  have hsz1 := hb1.size
  have hsz2 := hb2.size
  have hplt := hp.lt
  have hb12 : Below w.heap.size w w2 := hb1.trans (hb2.mono hsz1)
  have hR : RdK k w2 B p c S (SrcI S) 0 false 0 rd0 := rdk_new (P := S.P) hk (hp.below hb2 hplt) (hs.blk.below hb12 hcl) (hs.ints.below (hb12.mono hs.ge.2)) hs.ge.1 (Nat.le_trans hs.ge.2 hpg) (Nat.le_trans hs.ge.2 hb12.size) hs.small.1 hs.small.2.1 hs.small.2.2.1 hs.small.2.2.2
  rw [List.nodup_cons] at hn
  have hxlt : ∀ x ∈ xs, x.b < w1.heap.size := fun x hx => (hxs x hx).1.lt
  refine St.make (C := cx k B p c S w0) (hb0.trans (hb12.mono hs.ge.2)) hR ?_ ?_
  · rw [List.map_cons, List.nodup_cons]
    refine ⟨fun hm => ?_, hn.2⟩
    obtain ⟨y, hy, hye⟩ := List.mem_map.1 hm
    have := hxlt y hy
    have he : y.b = w1.heap.size := hye
    omega
  · intro x hx
    rcases List.mem_cons.1 hx with rfl | hx
    · refine ⟨hB, ?_⟩
      show w1.heap.size ∉ p :: c :: []
      simp
      omega
    · have h1 := hxs x hx
      refine ⟨h1.1.below hb2 h1.1.lt, ?_⟩
      show x.b ∉ p :: c :: []
      simp only [List.mem_cons, List.mem_nil_iff, or_false]
      rintro (h | h)
      · exact hn.1 (h ▸ List.mem_map_of_mem hx)
      · omega
end Go.Proofs.YtgkenhmbilkhdaaGreatDoor

namespace Go.Proofs.YtgkenhmbilkhdaaGreatDoor
open Go.RowKit

theorem WaysIs.vals {k p : Nat} {v : Array Value} {xs : List Bk} (h : WaysIs k p v xs) : ∃ v1 v2 v3 v4 v5, v = #[rdV k p, v1, v2, v3, v4, v5] := by
  rcases h with ⟨rfl, ib, rfl, _⟩ | ⟨rfl, rx, ib, tb, rfl, _⟩
  · exact ⟨_, _, _, _, _, rfl⟩
  · exact ⟨_, _, _, _, _, rfl⟩

theorem attempt_open (C : Cx) (hk : C.k = 0 ∨ C.k = 1) {dp : Nat} {d : DecS} {Bs : List Bk} {w : World} (hd : C.B ≤ dp) (hd0 : d.byte = 0) (h : St C (dB C dp d :: Bs) 0 w) :
    Calls Tryz.prog 105 #[.func (.func 106) #[.pointer (some ⟨dp, 0, none⟩)] #[]] w fun e w' =>
      (∃ i kk, openP C.I = .ok (i, kk) ∧ e = .returned .nilIface ∧ St C (dB C dp { d with info := i, byte := kk / 8 } :: Bs) kk w') ∨
      (∃ x a j i, openP C.I = .error (x, a) ∧ e = .returned (stopV x) ∧ St C (dB C dp { d with info := i, byte := a } :: Bs) j w') := by
  have hB := h.bounds.2.2.2.1
  have hS4 := (h.alloc #[.nilIface] 78).second
  refine (attempt_head dp w _ (readHead_any C hk hd hd0 hS4) ?_).mono ?_
  · rintro e w9 (⟨i, kk, _, rfl, hS⟩ | ⟨x, a, _, rfl, j, i, hS⟩)
    · exact ⟨hS.tail.head, Or.inl rfl⟩
    · refine ⟨hS.tail.head, Or.inr ?_⟩
      unfold stopV
      split <;> exact ⟨_, _, rfl⟩
  · rintro e w' ⟨w1, ⟨hR, rfl, rfl⟩ | ⟨T, v, hR, rfl, rfl⟩⟩
    · rcases hR with ⟨i, kk, ho, _, hS⟩ | ⟨x, a, _, he, _⟩
      · exact Or.inl ⟨i, kk, ho, rfl, (hS.second.set hB 0 _).tail⟩
      · unfold thrown at he; cases he
    · rcases hR with ⟨i, kk, _, he, _⟩ | ⟨x, a, ho, he, j, i, hS⟩
      · unfold thrown at he; cases he
      · have hev : Value.iface T v = stopV x := by
          unfold thrown at he
          injection he with he
          injection he with he
          injection he with he
          injection he with _ he
          injection he with he
          have := congrArg (fun a : Array Value => a[0]?) he
          simpa using this
        rw [hev]
        exact Or.inr ⟨x, a, j, i, ho, rfl, ((hS.second.set hB 0 _).tail).below (by go_grown)⟩

set_option maxRecDepth 10000 in
set_option maxHeartbeats 4000000 in
theorem streamOpen_any (k : Nat) (hk : k = 0 ∨ k = 1) {w0 w : World} {B c : Nat} {S : Src} (hb0 : Below B w0 w) (hs : SrcAt w B c S) :
    Calls Tryz.prog 79 #[srcV c, .int .i64 (k : Int)] w fun e w' => OpenPost w0 B k c S w e w' := by
  have hmf : ∀ (fn : Fn) (first cap : Array Value) (w : World), (Instr.makeFunc fn first cap).run Tryz.prog w = .ok (.func fn first cap) w := fun _ _ _ _ => rfl
  have HW := hid (waysOf_any k hk c w)
  have hBw := hs.ge.2
  have HSR := hid hs
  have HB0 := hid hb0
  clear hs hb0
  unfold srcV at *
  go_enter Tryz.func79, Tryz.ntmps79
  go_wp2_with fail
  refine HW.out.mono ?_
  rintro e w1 ⟨p, v, xs, rfl, hW, hb1, hp, hpg, hn, hxs⟩
  obtain ⟨v1, v2, v3, v4, v5, rfl⟩ := hW.vals
  have HA := hid (And.intro hW (And.intro hb1 (And.intro hp (And.intro hpg (And.intro hn hxs)))))
  clear hW hb1 hp hpg hn hxs HW
  go_wp2_with fail
  refine (newMd5_any _).mono ?_
  rintro e w2 ⟨rfl, hb2, hmd⟩
  obtain ⟨hW, hb1, hp, hpg, hn, hxs⟩ := HA.out
  obtain ⟨bl, h64, h256, hS2⟩ := open_start hk HB0.out HSR.out hb1 hp hpg hn hxs hb2 hmd
  have hge1 : B ≤ w1.heap.size := Nat.le_trans hBw hb1.size
  have hge2 : B ≤ w2.heap.size := Nat.le_trans hge1 hb2.size
  have hS3 := hS2.alloc (decCells k p (dec0 #[rdV k p, v1, v2, v3, v4, v5] w1.heap.size)) 226
  have HWI := hid hW
  have HBL := hid (And.intro h64 h256)
  have HH : Hid (Calls Tryz.prog 105 #[.func (.func 106) #[.pointer (some ⟨w2.heap.size, 0, none⟩)] #[]] (w2.alloc (.cells #[rdV k p, v1, v2, v3, v4, v5, .int .i64 0, .int .i64 0, .int .i64 0, .int .i64 0, .int .i64 0, .int .i64 0, .int .i64 0, .int .i64 0, .string ⟨#[]⟩, .int .i64 (-1), .int .i64 0, .bool false, .int .i64 0, .pointer (some ⟨w1.heap.size, 0, none⟩), .nilIface] 226)) _) := attempt_open (cx k B p c S w0) hk (dp := w2.heap.size) (d := dec0 #[rdV k p, v1, v2, v3, v4, v5] w1.heap.size) hge2 rfl hS3
  clear hb1 hp hpg hn hxs hb2 hmd hS2 hS3 hW h64 h256 HA
  go_wp2_with fail
  refine HH.out.mono ?_
  rintro e w3 (⟨i, kk, ho, rfl, hS⟩ | ⟨x, a, j, i, ho, rfl, hS⟩)
  · have HO := hid ho
    have HS := hid hS
    have c15 : w3.cell? ⟨w2.heap.size, 15, none⟩ = some (.int .i64 (-1)) := hS.head.cell 15
    have f15 := hS.head.free 15
    clear ho hS
    go_wp2
    refine bodyPost_ret (v := .tuple #[.pointer (some ⟨w2.heap.size, 0, none⟩), .nilIface]) (by simp [results, Tryz.results79, go_sem]) rfl ?_
    exact Or.inl ⟨i, kk, w2.heap.size, HO.out, rfl, p, _, xs, w1.heap.size, bl, HWI.out, HBL.out.1, HBL.out.2, hge2, hge1, HS.out.set hge2 15 _⟩
  · obtain ⟨T1, V1, hst⟩ : ∃ T V, stopV x = .iface T V := by unfold stopV; split <;> exact ⟨_, _, rfl⟩
    have HST := hid hst
    have HO := hid ho
    have HS := hid hS
    have hb := hS.bounds
    have HP := hid (placed_any w2.heap.size (-1) a T1 V1 w3 (hS.head.cell 15) (hS.head.cell 16))
    rw [hst]
    clear ho hS hst
    go_wp2_with fail
    refine HP.out.mono ?_
    rintro e w4 ⟨rfl, hb4, hE⟩
    unfold errP
    go_wp2
    refine bodyPost_ret (v := .tuple #[.pointer none, errP w3.heap.size]) (by simp [results, Tryz.results79, go_sem, errP]) rfl ?_
    exact Or.inr ⟨x, a, w3.heap.size, HO.out, rfl, hb.2.2.2.1, by rw [HST.out]; exact hE, hb.2.2.2.2.trans (hb4.mono hb.2.2.2.1)⟩
end Go.Proofs.YtgkenhmbilkhdaaGreatDoor
