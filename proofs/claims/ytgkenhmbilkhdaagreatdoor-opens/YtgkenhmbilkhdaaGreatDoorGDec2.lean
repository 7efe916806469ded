import Derived.Test.YtgkenhmbilkhdaaGreatDoorGThrow
import Derived.Test.YtgkenhmbilkhdaaGreatDoorPar
namespace Go.Proofs.YtgkenhmbilkhdaaGreatDoor
open Go.RowKit

def strOf (l : List Nat) : ByteArray := strOfNums (l.map fun (x : Nat) => (x : Int))
def txtCells (l : List Nat) (n : Nat) : Array Value := (l.map byteV' ++ List.replicate n (Value.int .u8 0)).toArray
theorem txt_at (l : List Nat) (n : Nat) : (txtCells l (n + 1))[l.length]? = some (.int .u8 0) := by
  unfold txtCells
  rw [List.getElem?_toArray, List.getElem?_append_right (by simp)]
  simp [List.replicate_succ]
theorem txt_set (l : List Nat) (n v : Nat) : (txtCells l (n + 1)).setIfInBounds l.length (.int .u8 (v : Int)) = txtCells (l ++ [v]) n := by
  unfold txtCells
  rw [List.setIfInBounds_toArray, List.set_append, if_neg (by simp)]
  simp [List.replicate_succ, byteV']
theorem txt_get (l : List Nat) (n i : Nat) (h : i < l.length) : (txtCells l n)[i]? = some (.int .u8 ((l.getD i 0 : Nat) : Int)) := by
  unfold txtCells
  rw [List.getElem?_toArray, List.getElem?_append_left (by simpa using h)]
  simp [byteV', h]
theorem bytes_step {q : Except Nat (List Nat × Nat)} {n : Nat} {l0 : List Nat} {I : Inp} {i v j : Nat} (h : q = ((bytesP (n + 1)).bind fun l => .ret (l0 ++ l)) I i) (hr : rd 8 I i = .ok (v, j)) : q = ((bytesP n).bind fun l => .ret ((l0 ++ [v]) ++ l)) I j := by
  rw [h]
  show (((rd 8).bind fun b => (bytesP n).bind fun l => .ret (b :: l)).bind fun l => .ret (l0 ++ l)) I i = _
  rw [Par.bind_assoc, Par.bind_ok hr, Par.bind_assoc]
  congr 1
  funext l
  rw [Par.ret_bind, List.append_assoc]
  rfl
theorem bytes_stop {q : Except Nat (List Nat × Nat)} {n : Nat} {l0 : List Nat} {I : Inp} {i x : Nat} (h : q = ((bytesP (n + 1)).bind fun l => .ret (l0 ++ l)) I i) (hr : rd 8 I i = .error x) : q = .error x := by
  rw [h]
  show (((rd 8).bind fun b => (bytesP n).bind fun l => .ret (b :: l)).bind fun l => .ret (l0 ++ l)) I i = _
  rw [Par.bind_assoc, Par.bind_err hr]
theorem bytes_end {q : Except Nat (List Nat × Nat)} {l0 : List Nat} {I : Inp} {i : Nat} (h : q = ((bytesP 0).bind fun l => .ret (l0 ++ l)) I i) : q = .ok (l0, i) := by
  rw [h]
  show (Par.ret (l0 ++ [])) I i = _
  rw [List.append_nil]
  rfl
theorem mk16 (w : World) : (Instr.makeSlice 136 (.int .i64 16) (.int .i64 16)).run Tryz.prog w = .ok (.slice (some ⟨w.heap.size, 0, none⟩) 16 16) (w.alloc (.cells #[.int .u8 0, .int .u8 0, .int .u8 0, .int .u8 0, .int .u8 0, .int .u8 0, .int .u8 0, .int .u8 0, .int .u8 0, .int .u8 0, .int .u8 0, .int .u8 0, .int .u8 0, .int .u8 0, .int .u8 0, .int .u8 0] 5)) := by kernel_rfl

set_option maxHeartbeats 2000000 in
theorem inText (C : Cx) (hk : C.k = 0 ∨ C.k = 1) {Bs : List Bk} {pos : Nat} {w : World} (h : St C Bs pos w) :
    Calls Tryz.prog 190 #[.agg #[rdV C.k C.p], .int .i64 16] w (InPost (bytesP 16 C.I pos) (fun l => .string (strOf l)) (St C Bs)) := by
  have hmk := mk16
  have hB := h.bounds.2.2.2.1
  have hS0 := (h.alloc #[rdV C.k C.p] 219).alloc #[.int .u8 0, .int .u8 0, .int .u8 0, .int .u8 0, .int .u8 0, .int .u8 0, .int .u8 0, .int .u8 0, .int .u8 0, .int .u8 0, .int .u8 0, .int .u8 0, .int .u8 0, .int .u8 0, .int .u8 0, .int .u8 0] 5
  obtain ⟨q, hq⟩ : ∃ q, q = bytesP 16 C.I pos := ⟨_, rfl⟩
  rw [← hq]
  have HQ : Hid (q = ((bytesP 16).bind fun l => .ret ([] ++ l)) C.I pos) := by
    show q = _
    rw [hq]
    unfold Par.bind Par.ret
    cases bytesP 16 C.I pos with
    | error x => rfl
    | ok y => rfl
  clear hq
  have HS0 := hid hS0
  clear hS0
  go_enter Tryz.func190, Tryz.ntmps190
  go_wp2
  go_loopg [11] 17 (fun gk v wr => ∃ (l : List Nat) (j : Nat), v = .int .i64 l.length ∧ gk + l.length = 17 ∧ l.length ≤ 16 ∧ Hid (St C (⟨w.heap.size + 1, txtCells l (16 - l.length), 5⟩ :: ⟨w.heap.size, #[rdV C.k C.p], 219⟩ :: Bs) j wr) ∧ Hid (q = ((bytesP (16 - l.length)).bind fun l' => .ret (l ++ l')) C.I j))
  case atStart => exact ⟨[], pos, rfl, rfl, by simp, by have := HS0.out; rw [World.size_alloc] at this; exact this, HQ⟩
  case round =>
    obtain ⟨l, j, rfl, hgk, hl16, HS, HP⟩ := hrel
    by_cases hlt : l.length < 16
    · obtain ⟨m, hm⟩ : ∃ m, 16 - l.length = m + 1 := ⟨15 - l.length, by omega⟩
      rw [hm] at HS HP
      have c0 : wr.cell? ⟨w.heap.size, 0, none⟩ = some (rdV C.k C.p) := HS.out.tail.head.cell 0
      have hlt' : (l.length : Int) < 16 := by omega
      have HR := hid (inReadC C hk 8 (by omega) HS.out)
      go_wp2_with fail
      refine HR.out.mono ?_
      intro e w1 hP
      rcases hP.cases with ⟨v, j1, hr, rfl, hS1⟩ | ⟨x, j1, hr, rfl, hS1⟩
      · have hv := (rd_inv hr).2.1
        have hvm : (v : Int) % 256 = v := by omega
        have cx := hS1.head.cell l.length
        rw [txt_at] at cx
        have fx := hS1.head.free l.length
        have hS2 := hS1.set (by omega) l.length (.int .u8 (v : Int))
        rw [txt_set] at hS2
        have HS2 := hid hS2
        have HP2 := hid (bytes_step HP.out hr)
        have hm2 : 16 - (l ++ [v]).length = m := by simp; omega
        clear hS1 hS2 hr hP
        go_wp2
        go_roundg (16 - l.length)
        case measure => omega
        case rel => exact ⟨l ++ [v], j1, by simp, by simp; omega, by simp; omega, by rw [hm2]; exact HS2, by rw [hm2]; exact HP2⟩
      · exact ⟨rfl, InPost.err (bytes_stop HP.out hr) hS1.tail.tail⟩
    · obtain h16 : l.length = 16 := by omega
      rw [h16] at HS HP
      have hcv := run_convert_bytes_arg (P := Tryz.prog) wr 136 5 Tryz.underlying136 Tryz.underlying5 (w.heap.size + 1) 0 16 16 (l.map fun (x : Nat) => (x : Int)) (by simp [h16]) (by
        intro i hi
        rw [Nat.zero_add, HS.out.head.cell i, txt_get _ _ _ (by omega)]
        simp [h16, hi]) 9 Tryz.underlying9
      have HST : Hid (strOf l = strOfNums (l.map fun (x : Nat) => (x : Int))) := rfl
      generalize strOfNums (l.map fun (x : Nat) => (x : Int)) = s at hcv HST
      have hlt' : ¬ (l.length : Int) < 16 := by omega
      rw [h16]
      go_wp2
      go_ret
      exact InPost.ok (bytes_end HP.out) (by rw [HST.out]; rfl) HS.out.tail.tail

set_option maxRecDepth 10000 in
set_option maxHeartbeats 1000000 in
theorem inSkip (C : Cx) (hk : C.k = 0 ∨ C.k = 1) {Bs : List Bk} {pos : Nat} {w : World} (n : Nat) (hn : n ≤ 100000000) (h : St C Bs pos w) :
    Calls Tryz.prog 172 #[.agg #[rdV C.k C.p], .int .i64 n] w (InPost (rd (8 * n) C.I pos) (fun _ => .tuple #[]) (St C Bs)) := by
  have hS0 := h.alloc #[rdV C.k C.p] 219
  obtain ⟨r, hR, hgo⟩ := hS0.use
  obtain ⟨T1, V1, hst⟩ : ∃ T V, stopV (stopE C.I.st) = .iface T V := by unfold stopV; split <;> exact ⟨_, _, rfl⟩
  have HST := hid hst
  clear hst
  have HG := hid hgo
  clear hgo
  have hc : C.k = 0 ∨ C.k = 1 := hk
  rcases hk with hk | hk
  · have hrv : rdV C.k C.p = .iface 216 (.pointer (some ⟨C.p, 0, none⟩)) := by rw [hk]; rfl
    rw [hrv] at hS0 hR HG ⊢
    rw [hk] at hR
    have HC := hid (slowSkip C.B C.p C.c C.S C.I pos C.mkd C.mark r (8 * n) (by omega) _ hR)
    rw [show (((8 * n : Nat)) : Int) = 8 * (n : Int) by omega] at HC
    clear hR
    go_enter Tryz.func172, Tryz.ntmps172
    go_wp2_with fail
    refine HC.out.mono ?_
    rintro e w1 ⟨r1, pos1, hM, hR1, hle, ⟨rfl, rfl, hle2⟩ | ⟨b, a, rfl, hb, hE, hno⟩⟩
    · go_wp2
      go_end0
      exact InPost.ok (rd_ok hle2) rfl (HG.out _ _ (by rw [hk]; exact ⟨r1, hM, hR1⟩)).tail
    · have HU := hid (unwrap_any b _ _ T1 V1 w1 (by rw [← HST.out]; exact hE))
      unfold errP at *
      go_wp2_with fail
      refine HU.out.mono ?_
      rintro e w2 ⟨rfl, rfl⟩
      go_wp2_with fail
      refine (throw_any T1 V1 _).mono ?_
      rintro e w3 ⟨rfl, rfl⟩
      exact ⟨rfl, by rw [← HST.out]; exact InPost.err (rd_no hno) (HG.out _ _ (by rw [hk]; exact ⟨r1, hM, hR1⟩)).tail⟩
  · have hrv : rdV C.k C.p = .iface 214 (.pointer (some ⟨C.p, 0, none⟩)) := by rw [hk]; rfl
    rw [hrv] at hS0 hR HG ⊢
    rw [hk] at hR
    have HC := hid (fastSkip C.B C.p C.c C.S C.I pos C.mkd C.mark r (8 * n) (by omega) _ hR)
    rw [show (((8 * n : Nat)) : Int) = 8 * (n : Int) by omega] at HC
    clear hR
    go_enter Tryz.func172, Tryz.ntmps172
    go_wp2_with fail
    refine HC.out.mono ?_
    rintro e w1 ⟨r1, pos1, hM, hR1, hle, ⟨rfl, rfl, hle2⟩ | ⟨b, a, rfl, hb, hE, hno⟩⟩
    · go_wp2
      go_end0
      exact InPost.ok (rd_ok hle2) rfl (HG.out _ _ (by rw [hk]; exact ⟨r1, hM, hR1⟩)).tail
    · have HU := hid (unwrap_any b _ _ T1 V1 w1 (by rw [← HST.out]; exact hE))
      unfold errP at *
      go_wp2_with fail
      refine HU.out.mono ?_
      rintro e w2 ⟨rfl, rfl⟩
      go_wp2_with fail
      refine (throw_any T1 V1 _).mono ?_
      rintro e w3 ⟨rfl, rfl⟩
      exact ⟨rfl, by rw [← HST.out]; exact InPost.err (rd_no hno) (HG.out _ _ (by rw [hk]; exact ⟨r1, hM, hR1⟩)).tail⟩
end Go.Proofs.YtgkenhmbilkhdaaGreatDoor

namespace Go.Proofs.YtgkenhmbilkhdaaGreatDoor

theorem meta_pos {I : Inp} {i j : Nat} {m : Nat × Nat × Nat} (h : metaP I i = .ok (m, j)) : j = i + 32 ∧ j ≤ 8 * I.T.length := by
  unfold metaP at h
  by_cases h1 : i + 1 ≤ 8 * I.T.length
  · rw [Par.bind_ok (rd_ok h1)] at h
    by_cases h2 : i + 1 + 7 ≤ 8 * I.T.length
    · rw [Par.bind_ok (rd_ok h2)] at h
      by_cases h3 : i + 1 + 7 + 24 ≤ 8 * I.T.length
      · rw [Par.bind_ok (rd_ok h3)] at h
        unfold Par.ret at h
        injection h with h
        injection h with h4 h5
        omega
      · rw [Par.bind_err (rd_no h3)] at h; cases h
    · rw [Par.bind_err (rd_no h2)] at h; cases h
  · rw [Par.bind_err (rd_no h1)] at h; cases h
theorem Par.bind_inv {α β : Type} {p : Par α} {f : α → Par β} {I : Inp} {i j : Nat} {b : β} (h : p.bind f I i = .ok (b, j)) : ∃ a k, p I i = .ok (a, k) ∧ f a I k = .ok (b, j) := by
  unfold Par.bind at h
  split at h
  · rename_i a k hp
    exact ⟨a, k, hp, h⟩
  · cases h
theorem Par.check_inv {b : Bool} {e : Nat} {I : Inp} {i j : Nat} {u : Unit} (h : Par.check b e I i = .ok (u, j)) : b = true ∧ j = i := by
  unfold Par.check at h
  split at h
  · injection h with h
    injection h with _ h
    exact ⟨by assumption, h.symm⟩
  · cases h
theorem rd_fits {n : Nat} {I : Inp} {i v j : Nat} (h : rd n I i = .ok (v, j)) : j = i + n ∧ j ≤ 8 * I.T.length := by
  unfold rd at h
  split at h
  · injection h with h
    injection h with _ h
    omega
  · cases h
theorem later_pos {I : Inp} {i j l : Nat} (h : laterP I i = .ok (l, j)) : i + 32 ≤ j ∧ j ≤ 8 * I.T.length := by
  unfold laterP at h
  obtain ⟨m, k, h1, h⟩ := Par.bind_inv h
  obtain ⟨_, k2, h2, h⟩ := Par.bind_inv h
  obtain ⟨v, k3, h3, h⟩ := Par.bind_inv h
  have e1 := (meta_pos h1).1
  have e2 := (Par.check_inv h2).2
  have e3 := rd_fits h3
  unfold Par.ret at h
  injection h with h
  injection h with _ h
  omega

def afterFirst (I : Inp) (info : Info) (n j : Nat) : Except (Nat × Nat) (Info × Nat) :=
  match laters I n j with
  | .error e => .error e
  | .ok k => .ok (info, k)
theorem open_mark_err {I : Inp} {e : Nat} (h : markP I 0 = .error e) : openP I = .error (e, 0) := by unfold openP; rw [h]
theorem open_first_err {I : Inp} {u : Unit} {i e : Nat} (h : markP I 0 = .ok (u, i)) (h1 : firstP I i = .error e) : openP I = .error (e, i / 8) := by unfold openP; rw [h]; simp only [h1]
theorem open_first_last {I : Inp} {u : Unit} {i j : Nat} {info : Info} (h : markP I 0 = .ok (u, i)) (h1 : firstP I i = .ok ((1, info), j)) : openP I = .ok (info, j) := by unfold openP; rw [h]; simp only [h1]
theorem open_first_more {I : Inp} {u : Unit} {i j l : Nat} {info : Info} (hl : l ≠ 1) (h : markP I 0 = .ok (u, i)) (h1 : firstP I i = .ok ((l, info), j)) : openP I = afterFirst I info (I.T.length + 1) j := by
  unfold openP afterFirst
  rw [h]
  simp only [h1]
  cases laters I (I.T.length + 1) j <;> rfl
theorem after_last {I : Inp} {info : Info} {n i j : Nat} (h : laterP I i = .ok (1, j)) : afterFirst I info (n + 1) i = .ok (info, j) := by unfold afterFirst laters; simp only [h]
theorem after_more {I : Inp} {info : Info} {n i j l : Nat} (hl : l ≠ 1) (h : laterP I i = .ok (l, j)) : afterFirst I info (n + 1) i = afterFirst I info n j := by
  have : laters I (n + 1) i = laters I n j := by
    rw [laters, h]
    split
    · rename_i heq
      injection heq with heq
      injection heq with heq
      exact absurd heq hl
    · rename_i heq
      injection heq with heq
      injection heq with _ heq
      rw [heq]
    · rename_i heq; cases heq
  unfold afterFirst
  rw [this]
theorem after_err {I : Inp} {info : Info} {n i e : Nat} (h : laterP I i = .error e) : afterFirst I info (n + 1) i = .error (e, i / 8) := by unfold afterFirst laters; simp only [h]
end Go.Proofs.YtgkenhmbilkhdaaGreatDoor

namespace Go.Proofs.YtgkenhmbilkhdaaGreatDoor

theorem rd_err {n : Nat} {I : Inp} {i x : Nat} (h : rd n I i = .error x) : x = stopE I.st := by
  unfold rd at h
  split at h
  · cases h
  · injection h with h
    exact h.symm
theorem Par.bind_einv {α β : Type} {p : Par α} {f : α → Par β} {I : Inp} {i x : Nat} (h : p.bind f I i = .error x) : p I i = .error x ∨ ∃ a k, p I i = .ok (a, k) ∧ f a I k = .error x := by
  unfold Par.bind at h
  split at h
  · rename_i a k hp
    exact Or.inr ⟨a, k, hp, h⟩
  · rename_i e hp
    injection h with h
    exact Or.inl (by rw [hp, h])
theorem Par.check_einv {b : Bool} {e : Nat} {I : Inp} {i x : Nat} (h : Par.check b e I i = .error x) : x = e := by
  unfold Par.check at h
  split at h
  · cases h
  · injection h with h
    exact h.symm
theorem Par.ret_einv {α : Type} {a : α} {I : Inp} {i x : Nat} (h : Par.ret a I i = .error x) : False := by
  unfold Par.ret at h; cases h
theorem bytes_err {I : Inp} {x : Nat} : ∀ {n i : Nat}, bytesP n I i = .error x → x = stopE I.st
  | 0, _, h => (Par.ret_einv h).elim
  | n + 1, i, h => by
    unfold bytesP at h
    rcases Par.bind_einv h with h | ⟨_, _, _, h⟩
    · exact rd_err h
    · rcases Par.bind_einv h with h | ⟨_, _, _, h⟩
      · exact bytes_err h
      · exact (Par.ret_einv h).elim
theorem meta_err {I : Inp} {i x : Nat} (h : metaP I i = .error x) : x = stopE I.st := by
  unfold metaP at h
  rcases Par.bind_einv h with h | ⟨_, _, _, h⟩
  · exact rd_err h
  rcases Par.bind_einv h with h | ⟨_, _, _, h⟩
  · exact rd_err h
  rcases Par.bind_einv h with h | ⟨_, _, _, h⟩
  · exact rd_err h
  exact (Par.ret_einv h).elim
theorem info_err {I : Inp} {i x : Nat} (h : infoP I i = .error x) : x = stopE I.st := by
  unfold infoP at h
  rcases Par.bind_einv h with h | ⟨_, _, _, h⟩
  · exact rd_err h
  rcases Par.bind_einv h with h | ⟨_, _, _, h⟩
  · exact rd_err h
  rcases Par.bind_einv h with h | ⟨_, _, _, h⟩
  · exact rd_err h
  rcases Par.bind_einv h with h | ⟨_, _, _, h⟩
  · exact rd_err h
  rcases Par.bind_einv h with h | ⟨_, _, _, h⟩
  · exact rd_err h
  rcases Par.bind_einv h with h | ⟨_, _, _, h⟩
  · exact rd_err h
  rcases Par.bind_einv h with h | ⟨_, _, _, h⟩
  · exact rd_err h
  rcases Par.bind_einv h with h | ⟨_, _, _, h⟩
  · exact rd_err h
  rcases Par.bind_einv h with h | ⟨_, _, _, h⟩
  · exact bytes_err h
  exact (Par.ret_einv h).elim
theorem later_err {I : Inp} {i x : Nat} (h : laterP I i = .error x) : x = stopE I.st ∨ x = 5 := by
  unfold laterP at h
  rcases Par.bind_einv h with h | ⟨_, _, _, h⟩
  · exact Or.inl (meta_err h)
  rcases Par.bind_einv h with h | ⟨_, _, _, h⟩
  · exact Or.inr (Par.check_einv h)
  rcases Par.bind_einv h with h | ⟨_, _, _, h⟩
  · exact Or.inl (rd_err h)
  exact (Par.ret_einv h).elim
theorem first_err {I : Inp} {i x : Nat} (h : firstP I i = .error x) : x = stopE I.st ∨ x = 5 ∨ x = 4 := by
  unfold firstP at h
  rcases Par.bind_einv h with h | ⟨_, _, _, h⟩
  · exact Or.inl (meta_err h)
  rcases Par.bind_einv h with h | ⟨_, _, _, h⟩
  · exact Or.inr (Or.inl (Par.check_einv h))
  rcases Par.bind_einv h with h | ⟨_, _, _, h⟩
  · exact Or.inl (info_err h)
  rcases Par.bind_einv h with h | ⟨_, _, _, h⟩
  · exact Or.inr (Or.inr (Par.check_einv h))
  exact (Par.ret_einv h).elim
theorem laters_err {I : Inp} {x a : Nat} : ∀ {n i : Nat}, i ≤ 8 * I.T.length → laters I n i = .error (x, a) → (x = stopE I.st ∨ x = 5) ∧ a ≤ I.T.length
  | 0, _, _, h => by unfold laters at h; cases h
  | n + 1, i, hi, h => by
    unfold laters at h
    split at h
    · cases h
    · rename_i hl
      exact laters_err (later_pos hl).2 h
    · rename_i e he
      injection h with h
      injection h with h1 h2
      subst h1
      exact ⟨later_err he, by omega⟩
theorem laters_pos {I : Inp} {k : Nat} : ∀ {n i : Nat}, i ≤ 8 * I.T.length → laters I n i = .ok k → k ≤ 8 * I.T.length
  | 0, _, hi, h => by
    unfold laters at h
    injection h with h
    omega
  | n + 1, i, hi, h => by
    unfold laters at h
    split at h
    · rename_i hl
      injection h with h
      have := (later_pos hl).2
      omega
    · rename_i hl
      exact laters_pos (later_pos hl).2 h
    · cases h
theorem bytes_pos {I : Inp} {l : List Nat} {j : Nat} : ∀ {n i : Nat}, i ≤ 8 * I.T.length → bytesP n I i = .ok (l, j) → j ≤ 8 * I.T.length ∧ i ≤ j
  | 0, i, hi, h => by
    unfold bytesP Par.ret at h
    injection h with h
    injection h with _ h
    omega
  | n + 1, i, hi, h => by
    unfold bytesP at h
    obtain ⟨_, k1, h1, h⟩ := Par.bind_inv h
    obtain ⟨_, k2, h2, h⟩ := Par.bind_inv h
    have e1 := rd_fits h1
    have e2 := bytes_pos e1.2 h2
    unfold Par.ret at h
    injection h with h
    injection h with _ h
    omega
theorem first_pos {I : Inp} {i j : Nat} {m : Nat × Info} (h : firstP I i = .ok (m, j)) : j ≤ 8 * I.T.length := by
  unfold firstP at h
  obtain ⟨_, k1, _, h⟩ := Par.bind_inv h
  obtain ⟨_, k2, _, h⟩ := Par.bind_inv h
  obtain ⟨_, k3, h3, h⟩ := Par.bind_inv h
  obtain ⟨_, k4, h4, h⟩ := Par.bind_inv h
  have e4 := (Par.check_inv h4).2
  unfold Par.ret at h
  injection h with h
  injection h with _ h
  unfold infoP at h3
  obtain ⟨_, _, _, h3⟩ := Par.bind_inv h3
  obtain ⟨_, _, _, h3⟩ := Par.bind_inv h3
  obtain ⟨_, _, _, h3⟩ := Par.bind_inv h3
  obtain ⟨_, _, _, h3⟩ := Par.bind_inv h3
  obtain ⟨_, _, _, h3⟩ := Par.bind_inv h3
  obtain ⟨_, _, _, h3⟩ := Par.bind_inv h3
  obtain ⟨_, _, _, h3⟩ := Par.bind_inv h3
  obtain ⟨_, k8, h8, h3⟩ := Par.bind_inv h3
  obtain ⟨_, k9, h9, h3⟩ := Par.bind_inv h3
  have e9 := bytes_pos (rd_fits h8).2 h9
  unfold Par.ret at h3
  injection h3 with h3
  injection h3 with _ h3
  omega
theorem mark_pos {I : Inp} {u : Unit} {i : Nat} (h : markP I 0 = .ok (u, i)) : i = 32 ∧ 32 ≤ 8 * I.T.length := by
  unfold markP at h
  obtain ⟨_, k1, h1, h⟩ := Par.bind_inv h
  have e1 := rd_fits h1
  have e2 := (Par.check_inv h).2
  omega
theorem mark_err {I : Inp} {x : Nat} (h : markP I 0 = .error x) : x = stopE I.st ∨ x = 2 := by
  unfold markP at h
  rcases Par.bind_einv h with h | ⟨_, _, _, h⟩
  · exact Or.inl (rd_err h)
  · exact Or.inr (Par.check_einv h)
theorem stopE_cases {I : Inp} (h : I.st = 1 ∨ I.st = 14 ∨ I.st = 16) : stopE I.st = 3 ∨ stopE I.st = 14 ∨ stopE I.st = 16 := by
  rcases h with h | h | h <;> rw [h] <;> simp [stopE]
theorem open_err {I : Inp} {x a : Nat} (hst : I.st = 1 ∨ I.st = 14 ∨ I.st = 16) (h : openP I = .error (x, a)) : 1 < x ∧ x ≤ 16 ∧ a ≤ I.T.length := by
  have hs := stopE_cases hst
  unfold openP at h
  split at h
  · rename_i e he
    injection h with h
    injection h with h1 h2
    have := mark_err he
    omega
  · rename_i u i hm
    have em := mark_pos hm
    split at h
    · rename_i e he
      injection h with h
      injection h with h1 h2
      have := first_err he
      omega
    · cases h
    · rename_i j hf
      split at h
      · rename_i e he
        injection h with h
        subst h
        have := laters_err (first_pos hf) he
        omega
      · cases h
theorem open_ok {I : Inp} {i : Info} {k : Nat} (h : openP I = .ok (i, k)) : k ≤ 8 * I.T.length := by
  unfold openP at h
  split at h
  · cases h
  · rename_i u i hm
    split at h
    · cases h
    · rename_i hf
      injection h with h
      injection h with _ h
      have := first_pos hf
      omega
    · rename_i hf
      split at h
      · cases h
      · rename_i hl
        injection h with h
        injection h with _ h
        have := laters_pos (first_pos hf) hl
        omega
end Go.Proofs.YtgkenhmbilkhdaaGreatDoor
