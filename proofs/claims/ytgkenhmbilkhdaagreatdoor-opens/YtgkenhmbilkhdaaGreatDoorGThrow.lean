import Derived.Test.YtgkenhmbilkhdaaGreatDoorGSk
import Derived.Test.YtgkenhmbilkhdaaGreatDoorGFaultP
namespace Go.Proofs.YtgkenhmbilkhdaaGreatDoor
open Go.RowKit

/-- What is thrown. -/
def thrown (ev : Value) : Ending := .panicked [{ v := .iface 282 (.agg #[ev]), recovered := false }]
theorem throw_any (T : TypeId) (v : Value) (w : World) : Calls Tryz.prog 180 #[.iface T v] w fun e w' => e = thrown (.iface T v) ∧ w' = w := by
  go_enter Tryz.func180, Tryz.ntmps180
  go_wp2
  exact ⟨rfl, rfl, rfl⟩

theorem unwrap_any (b : Nat) (f a : Int) (T : TypeId) (v : Value) (w : World) (h : ErrAt b f a (.iface T v) w) : Calls Tryz.prog 188 #[errP b] w fun e w' => e = .returned (.iface T v) ∧ w' = w := by
  obtain ⟨c0, c1, c2⟩ := h
  have u9 := has96
  unfold errP
  go_enter Tryz.func188, Tryz.ntmps188
  go_wp2
  go_ret
  exact ⟨rfl, rfl⟩

theorem Step.from {k : Nat} {w w0 w1 : World} {B p c : Nat} {S : Src} {I : Inp} {mk : Bool} {mark : Nat} {r : RdS} {pos' : Nat} (hb : Below w.heap.size w w0) (h : Step k w0 B p c S I mk mark r pos' w1) : Step k w B p c S I mk mark r pos' w1 := by
  obtain ⟨r', hM, hR⟩ := h
  exact ⟨r', ⟨(KeptX.of_below (X := []) hb).trans hM.1 (by simp) (fun i _ hi => hi), fun g hg => by
    rcases hM.2 g hg with h3 | h3
    · exact Or.inl h3
    · exact Or.inr (Nat.le_trans hb.size h3)⟩, hR⟩

set_option maxHeartbeats 2000000 in
theorem inRead (k : Nat) (hk : k = 0 ∨ k = 1) (B p c : Nat) (S : Src) (I : Inp) (pos : Nat) (mk : Bool) (mark : Nat) (r : RdS) (n : Nat) (hn : n ≤ 63) (w : World) (h : RdK k w B p c S I pos mk mark r) :
    Calls Tryz.prog 167 #[.agg #[rdV k p], .int .i64 n] w fun e w' =>
      (pos + n ≤ 8 * I.T.length ∧ e = .returned (.int .i64 ((valAt I.T pos n : Nat) : Int)) ∧ Step k w B p c S I mk mark r (pos + n) w') ∨
      (¬ pos + n ≤ 8 * I.T.length ∧ e = thrown (stopV (stopE I.st)) ∧ Step k w B p c S I mk mark r pos w') := by
  have hw0 : Below w.heap.size w (w.alloc (.cells #[rdV k p] 219)) := by go_grown
  have h0 := h.below hw0
  have hv : valAt I.T pos n < 9223372036854775808 := Nat.lt_of_lt_of_le (valAt_lt I.T pos n) (Nat.pow_le_pow_right (n := 2) (by omega) (show n ≤ 63 by omega))
  obtain ⟨T1, V1, hst⟩ : ∃ T V, stopV (stopE I.st) = .iface T V := by unfold stopV; split <;> exact ⟨_, _, rfl⟩
  have HST := hid hst
  clear hst
  rcases hk with rfl | rfl
  · rw [show rdV 0 p = .iface 216 (.pointer (some ⟨p, 0, none⟩)) from rfl] at *
    have HC := hid (slowRead B p c S I pos mk mark r n (by omega) _ h0)
    go_enter Tryz.func167, Tryz.ntmps167
    go_wp2_with fail
    refine HC.out.mono ?_
    rintro e w1 ⟨r1, hM, ⟨hle, rfl, hR1⟩ | ⟨hle, hR1, b, rfl, hT⟩⟩
    · go_wp2
      go_ret
      exact Or.inl ⟨hle, rfl, Step.from hw0 ⟨r1, hM, hR1⟩⟩
    · have HU := hid (unwrap_any b _ _ T1 V1 w1 (by rw [← HST.out]; exact hT.2))
      unfold errP at *
      go_wp2_with fail
      refine HU.out.mono ?_
      rintro e w2 ⟨rfl, rfl⟩
      go_wp2_with fail
      refine (throw_any T1 V1 _).mono ?_
      rintro e w3 ⟨rfl, rfl⟩
      exact ⟨rfl, Or.inr ⟨hle, by rw [HST.out]; rfl, Step.from hw0 ⟨r1, hM, hR1⟩⟩⟩
  · rw [show rdV 1 p = .iface 214 (.pointer (some ⟨p, 0, none⟩)) from rfl] at *
    have HC := hid (fastRead B p c S I pos mk mark r n (by omega) _ h0)
    go_enter Tryz.func167, Tryz.ntmps167
    go_wp2_with fail
    refine HC.out.mono ?_
    rintro e w1 ⟨r1, hM, ⟨hle, rfl, hR1⟩ | ⟨hle, hR1, b, rfl, hT⟩⟩
    · go_wp2
      go_ret
      exact Or.inl ⟨hle, rfl, Step.from hw0 ⟨r1, hM, hR1⟩⟩
    · have HU := hid (unwrap_any b _ _ T1 V1 w1 (by rw [← HST.out]; exact hT.2))
      unfold errP at *
      go_wp2_with fail
      refine HU.out.mono ?_
      rintro e w2 ⟨rfl, rfl⟩
      go_wp2_with fail
      refine (throw_any T1 V1 _).mono ?_
      rintro e w3 ⟨rfl, rfl⟩
      exact ⟨rfl, Or.inr ⟨hle, by rw [HST.out]; rfl, Step.from hw0 ⟨r1, hM, hR1⟩⟩⟩
end Go.Proofs.YtgkenhmbilkhdaaGreatDoor

namespace Go.Proofs.YtgkenhmbilkhdaaGreatDoor
open Go.RowKit

set_option maxHeartbeats 2000000 in
theorem inUnary (k : Nat) (hk : k = 0 ∨ k = 1) (B p c : Nat) (S : Src) (I : Inp) (pos : Nat) (mk : Bool) (mark : Nat) (r : RdS) (w : World) (h : RdK k w B p c S I pos mk mark r) :
    Calls Tryz.prog 179 #[.agg #[rdV k p]] w fun e w' =>
      (∃ q, un I pos = .ok (q, pos + q + 1) ∧ pos + q + 1 ≤ 8 * I.T.length ∧ e = .returned (.int .i64 (q : Int)) ∧ Step k w B p c S I mk mark r (pos + q + 1) w') ∨
      (un I pos = .error (stopE I.st) ∧ e = thrown (stopV (stopE I.st)) ∧ Step k w B p c S I mk mark r pos w') := by
  have hw0 : Below w.heap.size w (w.alloc (.cells #[rdV k p] 219)) := by go_grown
  have h0 := h.below hw0
  obtain ⟨T1, V1, hst⟩ : ∃ T V, stopV (stopE I.st) = .iface T V := by unfold stopV; split <;> exact ⟨_, _, rfl⟩
  have HST := hid hst
  clear hst
  rcases hk with rfl | rfl
  · rw [show rdV 0 p = .iface 216 (.pointer (some ⟨p, 0, none⟩)) from rfl] at *
    have HC := hid (slowUnary B p c S I pos mk mark r _ h0)
    go_enter Tryz.func179, Tryz.ntmps179
    go_wp2_with fail
    refine HC.out.mono ?_
    rintro e w1 ⟨r1, hM, ⟨q, hu, hle, rfl, hR1⟩ | ⟨hle, hR1, b, rfl, hT⟩⟩
    · go_wp2
      go_ret
      exact Or.inl ⟨q, hu, hle, rfl, Step.from hw0 ⟨r1, hM, hR1⟩⟩
    · have HLE := hid hle
      clear hle
      have HU := hid (unwrap_any b _ _ T1 V1 w1 (by rw [← HST.out]; exact hT.2))
      unfold errP at *
      go_wp2_with fail
      refine HU.out.mono ?_
      rintro e w2 ⟨rfl, rfl⟩
      go_wp2_with fail
      refine (throw_any T1 V1 _).mono ?_
      rintro e w3 ⟨rfl, rfl⟩
      exact ⟨rfl, Or.inr ⟨HLE.out, by rw [HST.out]; rfl, Step.from hw0 ⟨r1, hM, hR1⟩⟩⟩
  · rw [show rdV 1 p = .iface 214 (.pointer (some ⟨p, 0, none⟩)) from rfl] at *
    have HC := hid (fastUnary B p c S I pos mk mark r _ h0)
    go_enter Tryz.func179, Tryz.ntmps179
    go_wp2_with fail
    refine HC.out.mono ?_
    rintro e w1 ⟨r1, hM, ⟨q, hu, hle, rfl, hR1⟩ | ⟨hle, hR1, b, rfl, hT⟩⟩
    · go_wp2
      go_ret
      exact Or.inl ⟨q, hu, hle, rfl, Step.from hw0 ⟨r1, hM, hR1⟩⟩
    · have HLE := hid hle
      clear hle
      have HU := hid (unwrap_any b _ _ T1 V1 w1 (by rw [← HST.out]; exact hT.2))
      unfold errP at *
      go_wp2_with fail
      refine HU.out.mono ?_
      rintro e w2 ⟨rfl, rfl⟩
      go_wp2_with fail
      refine (throw_any T1 V1 _).mono ?_
      rintro e w3 ⟨rfl, rfl⟩
      exact ⟨rfl, Or.inr ⟨HLE.out, by rw [HST.out]; rfl, Step.from hw0 ⟨r1, hM, hR1⟩⟩⟩
end Go.Proofs.YtgkenhmbilkhdaaGreatDoor

namespace Go.Proofs.YtgkenhmbilkhdaaGreatDoor
open Go.RowKit

/-! ### parts of a stream, as they are read -/
theorem Par.check_ok {b : Bool} {e : Nat} {I : Inp} {i : Nat} (h : b = true) : Par.check b e I i = .ok ((), i) := by unfold Par.check; rw [if_pos h]
theorem Par.check_no {b : Bool} {e : Nat} {I : Inp} {i : Nat} (h : b = false) : Par.check b e I i = .error e := by unfold Par.check; rw [h]; rfl
theorem rd_inv {n : Nat} {I : Inp} {i v j : Nat} (h : rd n I i = .ok (v, j)) : v = valAt I.T i n ∧ v < 2 ^ n ∧ j = i + n ∧ i + n ≤ 8 * I.T.length := by
  unfold rd at h
  split at h
  · injection h with h
    injection h with h1 h2
    subst h1; subst h2
    exact ⟨rfl, valAt_lt _ _ _, rfl, by assumption⟩
  · cases h

/-- What comes of a part: its value and the next place; or its error is thrown. -/
def InPost {α : Type} (res : Except Nat (α × Nat)) (enc : α → Value) (St : Nat → World → Prop) (e : Ending) (w' : World) : Prop :=
  match res with
  | .ok (a, j) => e = .returned (enc a) ∧ St j w'
  | .error x => e = thrown (stopV x) ∧ ∃ j, St j w'
theorem InPost.ok {α : Type} {res : Except Nat (α × Nat)} {enc : α → Value} {St : Nat → World → Prop} {w' : World} {a : α} {j : Nat} {v : Value} (h : res = .ok (a, j)) (hv : v = enc a) (hs : St j w') : InPost res enc St (.returned v) w' := by
  subst h; subst hv; exact ⟨rfl, hs⟩
theorem InPost.err {α : Type} {res : Except Nat (α × Nat)} {enc : α → Value} {St : Nat → World → Prop} {w' : World} {x j : Nat} (h : res = .error x) (hs : St j w') : InPost res enc St (thrown (stopV x)) w' := by
  subst h; exact ⟨rfl, j, hs⟩
theorem InPost.cases {α : Type} {res : Except Nat (α × Nat)} {enc : α → Value} {St : Nat → World → Prop} {e : Ending} {w' : World} (h : InPost res enc St e w') :
    (∃ a j, res = .ok (a, j) ∧ e = .returned (enc a) ∧ St j w') ∨ (∃ x j, res = .error x ∧ e = thrown (stopV x) ∧ St j w') := by
  unfold InPost at h
  split at h
  · exact Or.inl ⟨_, _, rfl, h.1, h.2⟩
  · obtain ⟨h1, j, h2⟩ := h
    exact Or.inr ⟨_, j, rfl, h1, h2⟩
theorem InPost.mono {α : Type} {res : Except Nat (α × Nat)} {enc : α → Value} {St St' : Nat → World → Prop} {e : Ending} {w' : World} (h : InPost res enc St e w') (hs : ∀ j, St j w' → St' j w') : InPost res enc St' e w' := by
  rcases h.cases with ⟨a, j, rfl, rfl, h1⟩ | ⟨x, j, rfl, rfl, h1⟩
  · exact ⟨rfl, hs _ h1⟩
  · exact ⟨rfl, _, hs _ h1⟩

/-- A block and what it holds. -/
structure Bk where
  b : Nat
  cs : Array Value
  t : TypeId
/-- A reader of a kind, and since when. -/
structure Cx where
  k : Nat
  B : Nat
  p : Nat
  c : Nat
  S : Src
  I : Inp
  mkd : Bool
  mark : Nat
  w0 : World

/-- Where all stands: the reader at a bit, and these blocks as they are. -/
def St (C : Cx) (Bs : List Bk) (pos : Nat) (w : World) : Prop :=
  ∃ r, Below C.B C.w0 w ∧ RdK C.k w C.B C.p C.c C.S C.I pos C.mkd C.mark r ∧ (Bs.map Bk.b).Nodup ∧ ∀ x ∈ Bs, Blk w x.b x.cs x.t ∧ x.b ∉ C.p :: C.c :: rowX r.hv
theorem St.use {C : Cx} {Bs : List Bk} {pos : Nat} {w : World} (h : St C Bs pos w) : ∃ r, RdK C.k w C.B C.p C.c C.S C.I pos C.mkd C.mark r ∧ ∀ j w', Step C.k w C.B C.p C.c C.S C.I C.mkd C.mark r j w' → St C Bs j w' := by
  obtain ⟨r, hb, hR, hn, hB⟩ := h
  refine ⟨r, hR, fun j w' hS => ?_⟩
  obtain ⟨r', hM, hR'⟩ := hS
  have hbd := hR.bounds
  refine ⟨r', hb.trans (hM.1.below hbd.2.2.2.2 hbd.2.2.2.1), hR', hn, fun x hx => ?_⟩
  obtain ⟨h1, h2⟩ := hB x hx
  refine ⟨hM.1.blk h1 h2, fun hi => h2 ?_⟩
  simp only [List.mem_cons] at hi ⊢
  rcases hi with h | h | h
  · exact Or.inl h
  · exact Or.inr (Or.inl h)
  · rcases hM.2 _ h with h3 | h3
    · exact Or.inr (Or.inr h3)
    · exact absurd h1.lt (by omega)
theorem St.get {C : Cx} {Bs : List Bk} {pos : Nat} {w : World} (h : St C Bs pos w) {x : Bk} (hx : x ∈ Bs) : Blk w x.b x.cs x.t := by
  obtain ⟨r, _, _, _, hB⟩ := h
  exact (hB x hx).1
theorem St.head {C : Cx} {b : Nat} {cs : Array Value} {t : TypeId} {Bs : List Bk} {pos : Nat} {w : World} (h : St C (⟨b, cs, t⟩ :: Bs) pos w) : Blk w b cs t := h.get (x := ⟨b, cs, t⟩) (by simp)
theorem St.tail {C : Cx} {x : Bk} {Bs : List Bk} {pos : Nat} {w : World} (h : St C (x :: Bs) pos w) : St C Bs pos w := by
  obtain ⟨r, hb, hR, hn, hB⟩ := h
  exact ⟨r, hb, hR, (List.nodup_cons.1 hn).2, fun y hy => hB y (List.mem_cons_of_mem _ hy)⟩
theorem St.second {C : Cx} {x : Bk} {Bs : List Bk} {y : Bk} {pos : Nat} {w : World} (h : St C (x :: y :: Bs) pos w) : St C (y :: x :: Bs) pos w := by
  obtain ⟨r, hb, hR, hn, hB⟩ := h
  refine ⟨r, hb, hR, ?_, fun z hz => hB z (by simp only [List.mem_cons] at hz ⊢; rcases hz with h | h | h <;> simp [h])⟩
  simp only [List.map_cons, List.nodup_cons, List.mem_cons, not_or] at hn ⊢
  exact ⟨⟨fun h => hn.1.1 h.symm, hn.2.1⟩, hn.1.2, hn.2.2⟩
theorem St.bounds {C : Cx} {Bs : List Bk} {pos : Nat} {w : World} (h : St C Bs pos w) : pos ≤ 8 * C.I.T.length ∧ C.I.T.length ≤ 1048576 ∧ (C.I.st = 1 ∨ C.I.st = 14 ∨ C.I.st = 16) ∧ C.B ≤ w.heap.size ∧ Below C.B C.w0 w := by
  obtain ⟨r, hb, hR, _, _⟩ := h
  have := hR.bounds
  exact ⟨this.1, this.2.1, this.2.2.1, this.2.2.2.1, hb⟩
theorem St.below {C : Cx} {Bs : List Bk} {pos : Nat} {w w' : World} (h : St C Bs pos w) (hb : Below w.heap.size w w') : St C Bs pos w' := by
  obtain ⟨r, hR, hgo⟩ := h.use
  exact hgo _ _ ⟨r, ⟨KeptX.of_below hb, fun g hg => Or.inl hg⟩, hR.below hb⟩
theorem RdK.lt {k : Nat} {w : World} {B p c : Nat} {S : Src} {I : Inp} {pos : Nat} {mk : Bool} {mark : Nat} {r : RdS} (h : RdK k w B p c S I pos mk mark r) : ∀ i ∈ p :: c :: rowX r.hv, i < w.heap.size := by
  obtain ⟨t, ex, hX, _⟩ := h.x
  intro i hi
  simp only [List.mem_cons] at hi
  rcases hi with rfl | rfl | hi
  · exact hX.x.blk.lt
  · exact hX.x.src.lt
  · exact (hX.x.row.ge i hi).2
theorem St.alloc {C : Cx} {Bs : List Bk} {pos : Nat} {w : World} (h : St C Bs pos w) (cs : Array Value) (t : TypeId) : St C (⟨w.heap.size, cs, t⟩ :: Bs) pos (w.alloc (.cells cs t)) := by
  have h' := h.below (w' := w.alloc (.cells cs t)) (by go_grown)
  obtain ⟨r0, hb0, hR0, hn0, hB0⟩ := h
  obtain ⟨r, hb, hR, hn, hB⟩ := h'
  have hlt := hR0.lt
  refine ⟨r0, hb, hR0.below (by go_grown), ?_, fun x hx => ?_⟩
  · simp only [List.map_cons, List.nodup_cons]
    refine ⟨fun hm => ?_, hn0⟩
    obtain ⟨y, hy, hye⟩ := List.mem_map.1 hm
    have := (hB0 y hy).1.lt
    omega
  · rcases List.mem_cons.1 hx with rfl | hx
    · exact ⟨Blk.new w cs t, fun hi => absurd (hlt _ hi) (by simp)⟩
    · exact ⟨(hB x hx).1, (hB0 x hx).2⟩
theorem St.set {C : Cx} {b : Nat} {cs : Array Value} {t : TypeId} {Bs : List Bk} {pos : Nat} {w : World} (h : St C (⟨b, cs, t⟩ :: Bs) pos w) (hB : C.B ≤ b) (i : Nat) (v : Value) : St C (⟨b, cs.setIfInBounds i v, t⟩ :: Bs) pos (w.setCell ⟨b, i, none⟩ v) := by
  obtain ⟨r, hb, hR, hn, hBs⟩ := h
  obtain ⟨h1, h2⟩ := hBs _ (List.mem_cons_self ..)
  have hK : KeptX [b] w (w.setCell ⟨b, i, none⟩ v) := (KeptX.refl _ _).setCell (by simp) i v
  have hbs := hb.size
  have hw := hR.bounds.2.2.2.1
  refine ⟨r, hb.trans (hK.below (by simpa using hB) hw), hR.kept hK (by simpa using hB) (fun j hj hx => by simp at hx; subst hx; exact h2 hj), hn, fun x hx => ?_⟩
  simp only [List.map_cons, List.nodup_cons] at hn
  rcases List.mem_cons.1 hx with rfl | hx
  · exact ⟨h1.set i v, h2⟩
  · have h3 := hBs x (List.mem_cons_of_mem _ hx)
    refine ⟨hK.blk h3.1 (by simp; intro he; exact hn.1 (by rw [← he]; exact List.mem_map_of_mem hx)), h3.2⟩

/-- 'in.read', from wherever the reader has come to. -/
theorem inReadC (C : Cx) (hk : C.k = 0 ∨ C.k = 1) {Bs : List Bk} {pos : Nat} {w : World} (n : Nat) (hn : n ≤ 63) (h : St C Bs pos w) :
    Calls Tryz.prog 167 #[.agg #[rdV C.k C.p], .int .i64 n] w (InPost (rd n C.I pos) (fun v => .int .i64 (v : Int)) (St C Bs)) := by
  obtain ⟨r, hR, hgo⟩ := h.use
  refine (inRead C.k hk C.B C.p C.c C.S C.I pos C.mkd C.mark r n hn w hR).mono ?_
  rintro e w1 (⟨hle, rfl, hS⟩ | ⟨hle, rfl, hS⟩)
  · exact InPost.ok (rd_ok hle) rfl (hgo _ _ hS)
  · exact InPost.err (rd_no hle) (hgo _ _ hS)
theorem un_inv {I : Inp} {i v j : Nat} (h : un I i = .ok (v, j)) : j = i + v + 1 := by
  unfold un at h
  split at h
  · injection h with h
    injection h with h1 h2
    omega
  · cases h
theorem inUnaryC (C : Cx) (hk : C.k = 0 ∨ C.k = 1) {Bs : List Bk} {pos : Nat} {w : World} (h : St C Bs pos w) :
    Calls Tryz.prog 179 #[.agg #[rdV C.k C.p]] w (InPost (un C.I pos) (fun v => .int .i64 (v : Int)) (St C Bs)) := by
  obtain ⟨r, hR, hgo⟩ := h.use
  refine (inUnary C.k hk C.B C.p C.c C.S C.I pos C.mkd C.mark r w hR).mono ?_
  rintro e w1 (⟨q, hu, hle, rfl, hS⟩ | ⟨hu, rfl, hS⟩)
  · exact InPost.ok hu rfl (hgo _ _ hS)
  · exact InPost.err hu (hgo _ _ hS)

theorem check_yes (T : TypeId) (v : Value) (w : World) : Calls Tryz.prog 159 #[.bool true, .iface T v] w fun e w' => e = .returned (.tuple #[]) ∧ w' = w := by
  go_enter Tryz.func159, Tryz.ntmps159
  go_wp2
  go_end0
  exact ⟨rfl, rfl⟩
theorem check_not (T : TypeId) (v : Value) (w : World) : Calls Tryz.prog 159 #[.bool false, .iface T v] w fun e w' => e = thrown (.iface T v) ∧ w' = w := by
  go_enter Tryz.func159, Tryz.ntmps159
  go_wp2_with fail
  refine (throw_any T v _).mono ?_
  rintro e w3 ⟨rfl, rfl⟩
  exact ⟨rfl, rfl, rfl⟩
/-- 'check', of one of api's errors. -/
theorem check_any (b : Bool) (x : Nat) (hx : x ≠ 16) (w : World) : Calls Tryz.prog 159 #[.bool b, .iface 188 (.int .i64 x)] w fun e w' => ((b = true ∧ e = .returned (.tuple #[])) ∨ (b = false ∧ e = thrown (stopV x))) ∧ w' = w := by
  cases b
  · refine (check_not _ _ w).mono ?_
    rintro e w' ⟨rfl, rfl⟩
    exact ⟨Or.inr ⟨rfl, by unfold stopV; rw [if_neg hx]⟩, rfl⟩
  · refine (check_yes _ _ w).mono ?_
    rintro e w' ⟨rfl, rfl⟩
    exact ⟨Or.inl ⟨rfl, rfl⟩, rfl⟩

theorem byteAt_in (k : Nat) (hk : k = 0 ∨ k = 1) {w : World} {B p c : Nat} {S : Src} {I : Inp} {pos : Nat} {mk : Bool} {mark : Nat} {r : RdS} (h : RdK k w B p c S I pos mk mark r) :
    Calls Tryz.prog 189 #[.agg #[rdV k p]] w fun e w' => e = .returned (.int .i64 ((pos / 8 : Nat) : Int)) ∧ Below w.heap.size w w' := by
  have hbd := h.bounds
  have hq : (pos : Int).tdiv 8 = ((pos / 8 : Nat) : Int) := by rw [Int.tdiv_eq_ediv_of_nonneg (by omega)]; omega
  have hq2 : pos / 8 ≤ 1048576 := by omega
  obtain ⟨t, ex, hX, ht⟩ := h.x
  have c4 := (rd_c0 hX.x.blk).2.2.2.2.1
  have hlt := hX.x.blk.lt
  generalize pos / 8 = q at hq hq2
  have d4 : (w.alloc (.cells #[rdV k p] 219)).cell? ⟨p, 4, none⟩ = some (.int .i64 (pos : Int)) := (World.cell?_alloc_past _ _ _ hlt).trans c4
  rcases hk with rfl | rfl
  · rw [show rdV 0 p = .iface 216 (.pointer (some ⟨p, 0, none⟩)) from rfl] at *
    go_enter Tryz.func189, Tryz.ntmps189
    go_wp2
    go_ret
    exact ⟨rfl, by go_grown⟩
  · rw [show rdV 1 p = .iface 214 (.pointer (some ⟨p, 0, none⟩)) from rfl] at *
    go_enter Tryz.func189, Tryz.ntmps189
    go_wp2
    go_ret
    exact ⟨rfl, by go_grown⟩
end Go.Proofs.YtgkenhmbilkhdaaGreatDoor
