import Derived.Test.YtgkenhmbilkhdaaGreatDoorRefAbout
import Derived.Test.YtgkenhmbilkhdaaGreatDoorGSkOpen
namespace Go.Proofs.YtgkenhmbilkhdaaGreatDoor
open Go.RowKit

theorem mark_ok {I : Inp} {l : List Nat} {j : Nat} (h : bytesP 4 I 0 = .ok (l, j)) : j = 32 ∧ markP I 0 = (Par.check (decide (l = [102, 76, 97, 67])) 2) I 32 := by
  unfold bytesP at h
  obtain ⟨b0, k0, h0, h⟩ := Par.bind_inv h
  obtain ⟨m, k4, h, hr⟩ := Par.bind_inv h
  unfold bytesP at h
  obtain ⟨b1, k1, h1, h⟩ := Par.bind_inv h
  obtain ⟨m1, k5, h, hr1⟩ := Par.bind_inv h
  unfold bytesP at h
  obtain ⟨b2, k2, h2, h⟩ := Par.bind_inv h
  obtain ⟨m2, k6, h, hr2⟩ := Par.bind_inv h
  unfold bytesP at h
  obtain ⟨b3, k3, h3, h⟩ := Par.bind_inv h
  obtain ⟨m3, k7, h, hr3⟩ := Par.bind_inv h
  unfold bytesP Par.ret at h
  unfold Par.ret at hr hr1 hr2 hr3
  obtain ⟨e0, l0, rfl, _⟩ := rd_inv h0
  obtain ⟨e1, l1, rfl, _⟩ := rd_inv h1
  obtain ⟨e2, l2, rfl, _⟩ := rd_inv h2
  obtain ⟨e3, l3, rfl, hle⟩ := rd_inv h3
  injection h with h; injection h with ha hb
  injection hr3 with hr3; injection hr3 with hc hd
  injection hr2 with hr2; injection hr2 with he hf
  injection hr1 with hr1; injection hr1 with hg hi
  injection hr with hr; injection hr with hj hk
  subst ha; subst hc; subst he; subst hg; subst hj
  refine ⟨by omega, ?_⟩
  unfold markP
  rw [Par.bind_ok (rd_ok (by omega))]
  have hv : valAt I.T 0 32 = ((b0 * 256 + b1) * 256 + b2) * 256 + b3 := by
    rw [show (32 : Nat) = 8 + 24 by rfl, valAt_add, show (24 : Nat) = 8 + 16 by rfl, valAt_add, show (16 : Nat) = 8 + 8 by rfl, valAt_add, e0, e1, e2, e3]
    simp only [Nat.zero_add]
    generalize valAt I.T 0 8 = a0
    generalize valAt I.T 8 8 = a1
    generalize valAt I.T (8 + 8) 8 = a2
    generalize valAt I.T (8 + 8 + 8) 8 = a3
    omega
  have hq : decide (valAt I.T 0 32 = 1716281667) = decide ([b0, b1, b2, b3] = [102, 76, 97, 67]) := by
    rw [hv, decide_eq_decide]
    simp only [List.cons.injEq, and_true]
    omega
  rw [hq]
theorem mark_no {I : Inp} {x : Nat} (h : bytesP 4 I 0 = .error x) : markP I 0 = .error x := by
  have hx := bytes_err h
  have hn : ¬ 0 + 32 ≤ 8 * I.T.length := by
    intro hle
    unfold bytesP at h
    rw [Par.bind_ok (rd_ok (by omega))] at h
    unfold bytesP at h
    rw [Par.bind_assoc, Par.bind_ok (rd_ok (by omega))] at h
    unfold bytesP at h
    rw [Par.bind_assoc, Par.bind_assoc, Par.bind_ok (rd_ok (by omega))] at h
    unfold bytesP at h
    rw [Par.bind_assoc, Par.bind_assoc, Par.bind_ok (rd_ok (by omega))] at h
    unfold bytesP at h
    cases h
  unfold markP
  rw [Par.bind_err (rd_no hn), hx]
theorem skText_lt (I : Inp) : ∀ (n : Nat) (l : List Nat) (s : RS), (∀ x ∈ l, x < 256) → ∀ x ∈ (skText I n l s).1, x < 256
  | 0, l, s, h => h
  | n + 1, l, s, h => by
    unfold skText
    split
    · exact h
    · refine skText_lt I n _ _ ?_
      intro x hx
      rcases List.mem_append.1 hx with hx | hx
      · exact h x hx
      · rw [List.mem_singleton.1 hx]
        exact skRd_lt I 8 s
theorem u8_eq {a b : Nat} (ha : a < 256) (hb : b < 256) (h : UInt8.ofNat a = UInt8.ofNat b) : a = b := by
  have := congrArg UInt8.toNat h
  simp at this
  omega
theorem strOf_list (l : List Nat) : (strOf l).toList = l.map UInt8.ofNat := by
  rw [ByteArray.toList_eq]
  simp [strOf, strOfNums]
theorem map_inj : ∀ {l m : List Nat}, (∀ x ∈ l, x < 256) → (∀ x ∈ m, x < 256) → l.map UInt8.ofNat = m.map UInt8.ofNat → l = m
  | [], [], _, _, _ => rfl
  | [], _ :: _, _, _, h => by simp at h
  | _ :: _, [], _, _, h => by simp at h
  | a :: l, b :: m, h1, h2, h => by
    simp only [List.map_cons, List.cons.injEq] at h
    rw [u8_eq (h1 a (by simp)) (h2 b (by simp)) h.1, map_inj (fun x hx => h1 x (by simp [hx])) (fun x hx => h2 x (by simp [hx])) h.2]
theorem str_flac {l : List Nat} (h : ∀ x ∈ l, x < 256) : ((strOf l).toList == [102, 76, 97, 67]) = decide (l = [102, 76, 97, 67]) := by
  rw [strOf_list, Bool.eq_iff_iff]
  simp only [beq_iff_eq, decide_eq_true_eq]
  constructor
  · intro he
    exact map_inj h (by simp) (he.trans rfl)
  · intro he
    rw [he]
    rfl

/-! ### a later block -/
def skLater (I : Inp) : RS → Nat × RS := skBind (skMeta I) fun m => skBind (skCheck (m.2.1 ≠ 0 ∧ m.2.1 ≠ 127) 5) fun _ st => (m.1, skPass I m.2.2 st)
theorem later_sim {I : Inp} (hst : I.st = 1 ∨ I.st = 14 ∨ I.st = 16) (pos : Nat) : (∃ l j, laterP I pos = .ok (l, j) ∧ skLater I (0, pos) = (l, (0, j))) ∨ (∃ x, laterP I pos = .error x ∧ x ≠ 0 ∧ (skLater I (0, pos)).2.1 = x) := by
  unfold laterP skLater
  rcases (Sim.metas hst).good (pos := pos) with ⟨m, j, h1, h2⟩ | ⟨x, h1, hx, h2⟩
  · rw [Par.bind_ok h1, skBind_eq h2]
    have hj := (meta_pos h1).2
    by_cases hc : m.2.1 ≠ 0 ∧ m.2.1 ≠ 127
    · rw [Par.bind_ok (Par.check_ok (decide_eq_true hc)), skBind_eq (show skCheck (decide (m.2.1 ≠ 0 ∧ m.2.1 ≠ 127)) 5 (0, j) = ((), (0, j)) by unfold skCheck; rw [decide_eq_true hc]; rfl)]
      by_cases hn : j + 8 * m.2.2 ≤ 8 * I.T.length
      · rw [Par.bind_ok (rd_ok hn), pass_ok _ _ hn]
        exact Or.inl ⟨m.1, _, rfl, rfl⟩
      · rw [Par.bind_err (rd_no hn)]
        exact Or.inr ⟨_, rfl, stopE_ne hst, pass_no hst _ _ hn hj⟩
    · rw [Par.bind_err (Par.check_no (decide_eq_false hc)), skBind_eq (show skCheck (decide (m.2.1 ≠ 0 ∧ m.2.1 ≠ 127)) 5 (0, j) = ((), (5, j)) by unfold skCheck; rw [decide_eq_false hc]; rfl)]
      refine Or.inr ⟨5, rfl, by decide, ?_⟩
      show (skPass I m.2.2 (5, j)).1 = 5
      rw [skPass_bad _ _ _ (show (5 : Nat) ≠ 0 by decide)]
  · refine Or.inr ⟨x, Par.bind_err h1, hx, ?_⟩
    generalize hz : skMeta I (0, pos) = z at h2
    obtain ⟨m, e, p⟩ := z
    simp only at h2
    subst h2
    rw [skBind_eq hz]
    unfold skBind skCheck skFail
    simp only
    split
    · rw [skPass_bad _ _ _ hx]
    · rw [skPass_bad _ _ _ hx]
/-- The three numbers ahead of a block. -/
theorem meta_three {I : Inp} {s s1 s2 s3 : RS} {l k n : Nat} (h1 : skRd I 1 s = (l, s1)) (h2 : skRd I 7 s1 = (k, s2)) (h3 : skRd I 24 s2 = (n, s3)) : skMeta I s = ((l, k, n), s3) := by
  unfold skMeta
  rw [skBind_eq h1, skBind_eq h2, skBind_eq h3]
theorem first_three {I : Inp} {s s3 : RS} {l k n : Nat} (h : skMeta I s = ((l, k, n), s3)) : skFirst I s = ((l, (skAbout I (if s3.1 = 0 ∧ ¬ (k = 0 ∧ n = 34) then skFail 5 s3 else s3)).1), (skAbout I (if s3.1 = 0 ∧ ¬ (k = 0 ∧ n = 34) then skFail 5 s3 else s3)).2) := by
  have e : (if s3.1 = 0 ∧ ¬ (k = 0 ∧ n = 34) then skFail 5 s3 else s3) = (skCheck (decide (k = 0 ∧ n = 34)) 5 s3).2 := by
    unfold skCheck
    by_cases hc : k = 0 ∧ n = 34
    · rw [if_neg (fun h => h.2 hc), decide_eq_true hc]
      rfl
    · rw [decide_eq_false hc]
      by_cases h0 : s3.1 = 0
      · rw [if_pos ⟨h0, hc⟩]
        rfl
      · rw [if_neg (fun h => h0 h.1)]
        show s3 = skFail 5 s3
        unfold skFail
        rw [if_neg h0]
  rw [e]
  unfold skFirst
  rw [skBind_eq h]
  rfl
theorem later_three {I : Inp} {s s3 : RS} {l k n : Nat} (h : skMeta I s = ((l, k, n), s3)) : skLater I s = (l, skPass I n (if s3.1 = 0 ∧ (k = 127 ∨ k = 0) then skFail 5 s3 else s3)) := by
  have e : (if s3.1 = 0 ∧ (k = 127 ∨ k = 0) then skFail 5 s3 else s3) = (skCheck (decide (k ≠ 0 ∧ k ≠ 127)) 5 s3).2 := by
    unfold skCheck
    by_cases hc : k ≠ 0 ∧ k ≠ 127
    · rw [if_neg (fun h => by omega), decide_eq_true hc]
      rfl
    · rw [decide_eq_false hc]
      by_cases h0 : s3.1 = 0
      · rw [if_pos ⟨h0, by omega⟩]
        rfl
      · rw [if_neg (fun h => h0 h.1)]
        show s3 = skFail 5 s3
        unfold skFail
        rw [if_neg h0]
  rw [e]
  unfold skLater
  rw [skBind_eq h]
  rfl
end Go.Proofs.YtgkenhmbilkhdaaGreatDoor
