import Derived.Lib.BitFns
import Derived.Test.YtgkenhmbilkhdaaGreatDoorCrcPure
namespace Go.Proofs.YtgkenhmbilkhdaaGreatDoor

/-! What a source yields, and the bits of a text: plain numbers. N: the text's length; br: where it is broken; a: how much has come; e: reads of nothing in a row. The result: how much comes in all, and the stop's number. -/
def finalOf (N : Nat) (br : Int) : Nat × Nat := if 0 ≤ br ∧ br ≤ N then (br.toNat, 16) else (N, 1)
def clip (br : Int) (a : Nat) : Nat := if 0 ≤ br ∧ br < a then br.toNat else a
def ofFrom (N : Nat) (br : Int) : List Int → Nat → Nat → Nat × Nat
  | [], _, _ => finalOf N br
  | p :: ps, a, e =>
    if 0 ≤ br ∧ br ≤ a then (a, 16)
    else if p ≤ 0 then (if 8 ≤ e then (a, 14) else ofFrom N br ps a (e + 1))
    else if (N : Int) - a < p then finalOf N br
    else ofFrom N br ps (clip br (a + p.toNat)) 0
def srcRes (N : Nat) (br : Int) (P : List Int) (a left k e : Nat) : Nat × Nat :=
  if left = 0 then ofFrom N br (P.drop k) a e
  else if N < a + left then finalOf N br
  else ofFrom N br (P.drop k) (clip br (a + left)) 0
/-- Where a source may stand. -/
def SrcOk (N : Nat) (br : Int) (a : Nat) : Prop := a ≤ N ∧ (0 ≤ br → (a : Int) ≤ br)

theorem clip_ok {N : Nat} {br : Int} {a b : Nat} (h : SrcOk N br a) (hb : a ≤ b) (hN : b ≤ N) : SrcOk N br (clip br b) ∧ a ≤ clip br b := by
  have h1 := h.1
  have h2 := h.2
  unfold clip SrcOk
  split <;> omega

theorem final_ge {N : Nat} {br : Int} {a : Nat} (h : SrcOk N br a) : a ≤ (finalOf N br).1 ∧ (finalOf N br).1 ≤ N := by
  have h1 := h.1
  have h2 := h.2
  unfold finalOf
  split
  · show a ≤ br.toNat ∧ br.toNat ≤ N
    omega
  · exact ⟨h1, Nat.le_refl _⟩
theorem final_stop (N : Nat) (br : Int) : (finalOf N br).2 = 1 ∨ (finalOf N br).2 = 14 ∨ (finalOf N br).2 = 16 := by
  unfold finalOf
  split
  · exact Or.inr (Or.inr rfl)
  · exact Or.inl rfl

theorem of_ge {N : Nat} {br : Int} : ∀ (P : List Int) (a e : Nat), SrcOk N br a → a ≤ (ofFrom N br P a e).1 ∧ (ofFrom N br P a e).1 ≤ N := by
  intro P
  induction P with
  | nil => intro a e h; exact final_ge h
  | cons p ps ih =>
    intro a e h
    unfold ofFrom
    split
    · exact ⟨Nat.le_refl _, h.1⟩
    split
    · split
      · exact ⟨Nat.le_refl _, h.1⟩
      · exact ih a _ h
    split
    · exact final_ge h
    · rename_i h1 h2 h3
      have hc := clip_ok h (show a ≤ a + p.toNat by omega) (by have := h.1; omega)
      have := ih (clip br (a + p.toNat)) 0 hc.1
      exact ⟨Nat.le_trans hc.2 this.1, this.2⟩
theorem of_stop {N : Nat} {br : Int} : ∀ (P : List Int) (a e : Nat), (ofFrom N br P a e).2 = 1 ∨ (ofFrom N br P a e).2 = 14 ∨ (ofFrom N br P a e).2 = 16 := by
  intro P
  induction P with
  | nil => intro a e; exact final_stop N br
  | cons p ps ih =>
    intro a e
    unfold ofFrom
    split
    · exact Or.inr (Or.inr rfl)
    split
    · split
      · exact Or.inr (Or.inl rfl)
      · exact ih a _
    split
    · exact final_stop N br
    · exact ih _ 0
theorem res_ge {N : Nat} {br : Int} {P : List Int} {a left k e : Nat} (h : SrcOk N br a) : a ≤ (srcRes N br P a left k e).1 ∧ (srcRes N br P a left k e).1 ≤ N := by
  unfold srcRes
  split
  · exact of_ge _ _ _ h
  split
  · exact final_ge h
  · rename_i h1 h2
    have hc := clip_ok h (show a ≤ a + left by omega) (by omega)
    have := of_ge (P.drop k) _ 0 hc.1
    exact ⟨Nat.le_trans hc.2 this.1, this.2⟩
theorem res_stop (N : Nat) (br : Int) (P : List Int) (a left k e : Nat) : (srcRes N br P a left k e).2 = 1 ∨ (srcRes N br P a left k e).2 = 14 ∨ (srcRes N br P a left k e).2 = 16 := by
  unfold srcRes
  split
  · exact of_stop _ _ _
  split
  · exact final_stop _ _
  · exact of_stop _ _ _

theorem of_broken {N : Nat} {br : Int} (P : List Int) {a : Nat} (e : Nat) (h : SrcOk N br a) (h0 : 0 ≤ br) (hb : br ≤ a) : ofFrom N br P a e = (a, 16) := by
  have h1 := h.1
  have h2 := h.2 h0
  cases P with
  | nil =>
    unfold ofFrom finalOf
    rw [if_pos (by omega)]
    congr 1
    omega
  | cons p ps =>
    unfold ofFrom
    rw [if_pos ⟨h0, hb⟩]
theorem res_broken {N : Nat} {br : Int} {P : List Int} {a left k e : Nat} (h : SrcOk N br a) (h0 : 0 ≤ br) (hb : br ≤ a) : srcRes N br P a left k e = (a, 16) := by
  have h1 := h.1
  have h2 := h.2 h0
  unfold srcRes
  split
  · exact of_broken _ _ h h0 hb
  split
  · unfold finalOf
    rw [if_pos (by omega)]
    congr 1
    omega
  · have hc := clip_ok h (show a ≤ a + left by omega) (by omega)
    have hca : clip br (a + left) = a := by have := hc.1.2 h0; omega
    rw [hca]
    exact of_broken _ _ h h0 hb
theorem drop_at {P : List Int} {k : Nat} {p : Int} (hp : P[k]? = some p) : P.drop k = p :: P.drop (k + 1) := by
  obtain ⟨hk, rfl⟩ := List.getElem?_eq_some_iff.1 hp
  exact List.drop_eq_getElem_cons hk
theorem res_empty {N : Nat} {br : Int} {P : List Int} {a k e : Nat} {p : Int} (hn : ¬ (0 ≤ br ∧ br ≤ a)) (hp : P[k]? = some p) (h0 : p ≤ 0) (he : e < 8) : srcRes N br P a 0 (k + 1) (e + 1) = srcRes N br P a 0 k e := by
  unfold srcRes
  rw [if_pos rfl, if_pos rfl, drop_at hp]
  conv => rhs; unfold ofFrom
  rw [if_neg hn, if_pos h0, if_neg (by omega)]
theorem res_stuck {N : Nat} {br : Int} {P : List Int} {a k : Nat} {p : Int} (hn : ¬ (0 ≤ br ∧ br ≤ a)) (hp : P[k]? = some p) (h0 : p ≤ 0) : srcRes N br P a 0 k 8 = (a, 14) := by
  unfold srcRes
  rw [if_pos rfl, drop_at hp]
  unfold ofFrom
  rw [if_neg hn, if_pos h0, if_pos (by omega)]
theorem res_piece {N : Nat} {br : Int} {P : List Int} {a k e e' : Nat} {p : Int} (hn : ¬ (0 ≤ br ∧ br ≤ a)) (hp : P[k]? = some p) (h0 : 0 < p) : srcRes N br P a p.toNat (k + 1) e' = srcRes N br P a 0 k e := by
  unfold srcRes
  rw [if_neg (show ¬ p.toNat = 0 by omega), if_pos (show (0 : Nat) = 0 from rfl), drop_at hp]
  conv => rhs; unfold ofFrom
  rw [if_neg hn, if_neg (show ¬ p ≤ 0 by omega)]
  by_cases h : (N : Int) - a < p
  · rw [if_pos h, if_pos (show N < a + p.toNat by omega)]
  · rw [if_neg h, if_neg (show ¬ N < a + p.toNat by omega)]
theorem res_rest {N : Nat} {br : Int} {P : List Int} {a k e e' : Nat} (hN : N < 1099511627776) (hp : P.length ≤ k) : srcRes N br P a 1099511627776 k e' = srcRes N br P a 0 k e := by
  unfold srcRes
  rw [if_neg (by omega), if_pos rfl, if_pos (by omega), List.drop_eq_nil_of_le hp]
  rfl
theorem res_end {N : Nat} {br : Int} {P : List Int} {a left k e : Nat} (h : SrcOk N br a) (hn : ¬ (0 ≤ br ∧ br ≤ a)) (hl : 0 < left) (ha : N ≤ a) : srcRes N br P a left k e = (a, 1) := by
  have h1 := h.1
  unfold srcRes
  rw [if_neg (by omega), if_pos (by omega)]
  unfold finalOf
  rw [if_neg (by omega)]
  congr 1
  omega
theorem res_give {N : Nat} {br : Int} {P : List Int} {a left k e m : Nat} (h : SrcOk N br a) (hl : 0 < left) (h1 : m ≤ left) (h2 : m ≤ N - a) (h3 : 0 ≤ br → (m : Int) ≤ br - a) :
    srcRes N br P (a + m) (left - m) k 0 = srcRes N br P a left k e ∧ SrcOk N br (a + m) := by
  have g1 := h.1
  have g2 := h.2
  refine ⟨?_, by omega, by omega⟩
  unfold srcRes
  by_cases hN : N < a + left
  · rw [if_neg (show ¬ left - m = 0 by omega), if_neg (show ¬ left = 0 by omega), if_pos (show N < a + m + (left - m) by omega), if_pos hN]
  · rw [if_neg (show ¬ left = 0 by omega), if_neg hN]
    by_cases hm : left - m = 0
    · rw [if_pos hm]
      have hc : clip br (a + left) = a + m := by
        unfold clip
        rw [if_neg (by omega)]
        omega
      rw [hc]
    · rw [if_neg hm, if_neg (by omega), show a + m + (left - m) = a + left by omega]

/-! ### bits -/
def bitAt (T : List Nat) (i : Nat) : Nat := T.getD (i / 8) 0 / 2 ^ (7 - i % 8) % 2
def valAt (T : List Nat) (i : Nat) : Nat → Nat
  | 0 => 0
  | n + 1 => 2 * valAt T i n + bitAt T (i + n)

theorem bitAt_lt (T : List Nat) (i : Nat) : bitAt T i < 2 := Nat.mod_lt _ (by omega)
theorem valAt_lt (T : List Nat) (i : Nat) : ∀ n, valAt T i n < 2 ^ n
  | 0 => by simp [valAt]
  | n + 1 => by
    have := valAt_lt T i n
    have := bitAt_lt T (i + n)
    unfold valAt
    rw [Nat.pow_succ]
    omega
theorem valAt_add (T : List Nat) (i a : Nat) : ∀ b, valAt T i (a + b) = valAt T i a * 2 ^ b + valAt T (i + a) b
  | 0 => by simp [valAt]
  | b + 1 => by
    rw [← Nat.add_assoc, show valAt T i (a + b + 1) = 2 * valAt T i (a + b) + bitAt T (i + (a + b)) from rfl, show valAt T (i + a) (b + 1) = 2 * valAt T (i + a) b + bitAt T (i + a + b) from rfl]
    rw [valAt_add T i a b, Nat.pow_succ, Nat.mul_add, ← Nat.add_assoc i a b]
    have : 2 * (valAt T i a * 2 ^ b) = valAt T i a * (2 ^ b * 2) := by
      rw [Nat.mul_comm (2 ^ b) 2, Nat.mul_left_comm]
    omega
theorem valAt_div (T : List Nat) (i a b : Nat) : valAt T i (a + b) / 2 ^ b = valAt T i a := by
  rw [valAt_add, Nat.mul_comm, Nat.mul_add_div (Nat.two_pow_pos b), Nat.div_eq_of_lt (valAt_lt T (i + a) b), Nat.add_zero]
theorem valAt_mod (T : List Nat) (i a b : Nat) : valAt T i (a + b) % 2 ^ b = valAt T (i + a) b := by
  rw [valAt_add, Nat.mul_comm, Nat.mul_add_mod, Nat.mod_eq_of_lt (valAt_lt T (i + a) b)]

/-- The bits of a byte, from the left, are the byte. -/
theorem byte_bits (x : Nat) (hx : x < 256) : 2 * (2 * (2 * (2 * (2 * (2 * (2 * (2 * 0 + x / 128 % 2) + x / 64 % 2) + x / 32 % 2) + x / 16 % 2) + x / 8 % 2) + x / 4 % 2) + x / 2 % 2) + x / 1 % 2 = x := by omega
theorem bitAt_of (T : List Nat) (j k : Nat) (hk : k < 8) : bitAt T (8 * j + k) = T.getD j 0 / 2 ^ (7 - k) % 2 := by
  unfold bitAt
  rw [show (8 * j + k) / 8 = j by omega, show (8 * j + k) % 8 = k by omega]
theorem valAt_byte (T : List Nat) (j : Nat) (h : T.getD j 0 < 256) : valAt T (8 * j) 8 = T.getD j 0 := by
  have e := byte_bits _ h
  simp only [valAt]
  rw [bitAt_of T j 0 (by omega), bitAt_of T j 1 (by omega), bitAt_of T j 2 (by omega), bitAt_of T j 3 (by omega), bitAt_of T j 4 (by omega), bitAt_of T j 5 (by omega), bitAt_of T j 6 (by omega), bitAt_of T j 7 (by omega)]
  exact e

/-- Only the bytes that are looked at count. -/
theorem bitAt_take (T : List Nat) (L i : Nat) (h : i < 8 * L) : bitAt (T.take L) i = bitAt T i := by
  unfold bitAt
  rw [List.getD_eq_getElem?_getD, List.getD_eq_getElem?_getD, List.getElem?_take, if_pos (by omega)]
theorem valAt_take (T : List Nat) (L i : Nat) : ∀ n, i + n ≤ 8 * L → valAt (T.take L) i n = valAt T i n
  | 0, _ => rfl
  | n + 1, h => by
    unfold valAt
    rw [valAt_take T L i n (by omega), bitAt_take T L (i + n) (by omega)]

/-! ### noughts -/
def Zeros (T : List Nat) (i n : Nat) : Prop := ∀ j, j < n → bitAt T (i + j) = 0
theorem zeros_val {T : List Nat} {i : Nat} : ∀ {n : Nat}, Zeros T i n → valAt T i n = 0
  | 0, _ => rfl
  | n + 1, h => by
    unfold valAt
    rw [zeros_val (fun j hj => h j (by omega)), h n (by omega)]
theorem val_zeros {T : List Nat} {i : Nat} : ∀ {n : Nat}, valAt T i n = 0 → Zeros T i n
  | 0, _ => fun j hj => by omega
  | n + 1, h => by
    unfold valAt at h
    intro j hj
    rcases Nat.lt_or_ge j n with h1 | h1
    · exact val_zeros (n := n) (by omega) j h1
    · obtain rfl : j = n := by omega
      omega
theorem zeros_app {T : List Nat} {i a b : Nat} (h : Zeros T i a) (h' : Zeros T (i + a) b) : Zeros T i (a + b) := by
  intro j hj
  rcases Nat.lt_or_ge j a with h1 | h1
  · exact h j h1
  · have := h' (j - a) (by omega)
    rwa [show i + a + (j - a) = i + j by omega] at this
/-- The first one among n bits: by the number's length. -/
theorem first_one {T : List Nat} {i : Nat} : ∀ {n : Nat} (z : Nat), z < n → valAt T i n < 2 ^ (n - z) → 2 ^ (n - z - 1) ≤ valAt T i n → Zeros T i z ∧ bitAt T (i + z) = 1 := by
  intro n z hz h1 h2
  have e0 : valAt T i (z + (n - z)) / 2 ^ (n - z) = valAt T i z := valAt_div T i z (n - z)
  rw [show z + (n - z) = n by omega, Nat.div_eq_of_lt h1] at e0
  refine ⟨val_zeros e0.symm, ?_⟩
  have e1 : valAt T i (z + 1 + (n - z - 1)) / 2 ^ (n - z - 1) = valAt T i (z + 1) := valAt_div T i (z + 1) (n - z - 1)
  rw [show z + 1 + (n - z - 1) = n by omega] at e1
  have e2 : 1 ≤ valAt T i (z + 1) := by rw [← e1]; exact (Nat.le_div_iff_mul_le (Nat.two_pow_pos _)).2 (by omega)
  unfold valAt at e2
  have := bitAt_lt T (i + z)
  omega
theorem one_not_zeros {T : List Nat} {i n z : Nat} (h : Zeros T i n) (h1 : bitAt T (i + z) = 1) : n ≤ z := by
  rcases Nat.lt_or_ge z n with h2 | h2
  · have := h z h2; omega
  · exact h2

/-! ### bit lengths -/
theorem bitLen_zero : Lib.bitLen 0 = 0 := by unfold Lib.bitLen Lib.bitLenAux; rfl
theorem bitLen_bounds : ∀ (k x : Nat), x < 2 ^ k → k ≤ 64 → x ≠ 0 → x < 2 ^ Lib.bitLen x ∧ 2 ^ (Lib.bitLen x - 1) ≤ x ∧ 1 ≤ Lib.bitLen x := by
  intro k
  induction k with
  | zero => intro x hx _ h0; omega
  | succ k ih =>
    intro x hx hk h0
    have h64 : x < 2 ^ 64 := Nat.lt_of_lt_of_le hx (Nat.pow_le_pow_right (by omega) hk)
    rw [Lib.bitLen_half x h0 h64]
    by_cases h1 : x / 2 = 0
    · rw [h1, bitLen_zero]
      omega
    · obtain ⟨a, b, c⟩ := ih (x / 2) (by rw [Nat.pow_succ] at hx; omega) (by omega) h1
      refine ⟨?_, ?_, by omega⟩
      · rw [Nat.add_comm, Nat.pow_succ]; omega
      · rw [show 1 + Lib.bitLen (x / 2) - 1 = (Lib.bitLen (x / 2) - 1) + 1 by omega, Nat.pow_succ]; omega

/-! ### the reservoir: the next bits, the first of them highest -/
def PoolOk (T : List Nat) (i pool held : Nat) : Prop := held ≤ 64 ∧ pool = valAt T i held * 2 ^ (64 - held)

theorem pool_none (T : List Nat) (i : Nat) : PoolOk T i 0 0 := ⟨by omega, by simp [valAt]⟩
theorem PoolOk.lt {T : List Nat} {i pool held : Nat} (h : PoolOk T i pool held) : pool < 2 ^ 64 := by
  obtain ⟨h1, rfl⟩ := h
  have := Nat.mul_lt_mul_of_pos_right (valAt_lt T i held) (Nat.two_pow_pos (64 - held))
  rwa [← Nat.pow_add, show held + (64 - held) = 64 by omega] at this
theorem PoolOk.take {T : List Nat} {i pool held n : Nat} (h : PoolOk T i pool held) (hn : n ≤ held) : pool / 2 ^ (64 - n) = valAt T i n := by
  obtain ⟨h1, rfl⟩ := h
  rw [show 64 - n = (64 - held) + (held - n) by omega, Nat.pow_add, ← Nat.div_div_eq_div_mul, Nat.mul_div_cancel _ (Nat.two_pow_pos _)]
  have e := valAt_div T i n (held - n)
  rwa [show n + (held - n) = held by omega] at e
theorem PoolOk.drop {T : List Nat} {i pool held n : Nat} (h : PoolOk T i pool held) (hn : n ≤ held) : PoolOk T (i + n) (pool * 2 ^ n % 2 ^ 64) (held - n) := by
  obtain ⟨h1, rfl⟩ := h
  refine ⟨by omega, ?_⟩
  have e := valAt_add T i n (held - n)
  rw [show n + (held - n) = held by omega] at e
  have l := valAt_lt T (i + n) (held - n)
  have l2 : valAt T (i + n) (held - n) * 2 ^ (64 - (held - n)) < 2 ^ 64 := by
    have := Nat.mul_lt_mul_of_pos_right l (Nat.two_pow_pos (64 - (held - n)))
    rwa [← Nat.pow_add, show held - n + (64 - (held - n)) = 64 by omega] at this
  rw [Nat.mul_assoc, ← Nat.pow_add, show 64 - held + n = 64 - (held - n) by omega, e, Nat.add_mul, Nat.mul_assoc, ← Nat.pow_add, show held - n + (64 - (held - n)) = 64 by omega, Nat.mul_comm (valAt T i n), Nat.mul_add_mod, Nat.mod_eq_of_lt l2]
theorem PoolOk.fill {T : List Nat} {i pool held j : Nat} (h : PoolOk T i pool held) (hh : held ≤ 56) (hj : i + held = 8 * j) (hx : T.getD j 0 < 256) : PoolOk T i (pool ||| T.getD j 0 * 2 ^ (56 - held)) (held + 8) := by
  obtain ⟨h1, rfl⟩ := h
  refine ⟨by omega, ?_⟩
  have l : T.getD j 0 * 2 ^ (56 - held) < 2 ^ (64 - held) := by
    have := Nat.mul_lt_mul_of_pos_right (show T.getD j 0 < 2 ^ 8 from hx) (Nat.two_pow_pos (56 - held))
    rwa [← Nat.pow_add, show 8 + (56 - held) = 64 - held by omega] at this
  rw [Nat.mul_comm (valAt T i held), ← Nat.two_pow_add_eq_or_of_lt l, valAt_add T i held 8, hj, valAt_byte T j hx, show 64 - (held + 8) = 56 - held by omega, Nat.add_mul, Nat.mul_assoc, ← Nat.pow_add, show 8 + (56 - held) = 64 - held by omega, Nat.mul_comm (2 ^ (64 - held))]
theorem PoolOk.clz {T : List Nat} {i pool held z : Nat} (h : PoolOk T i pool held) (hz : z = 64 - Lib.bitLen pool) (hl : z < held) : Zeros T i z ∧ bitAt T (i + z) = 1 := by
  have hlt := h.lt
  obtain ⟨h1, hp⟩ := h
  have h0 : pool ≠ 0 := by
    intro h0
    rw [h0, bitLen_zero] at hz
    omega
  obtain ⟨a, b, c⟩ := bitLen_bounds 64 pool hlt (by omega) h0
  have d := Lib.bitLen_le pool 64 (by omega) hlt
  have ez : Lib.bitLen pool = 64 - z := by omega
  rw [ez] at a b
  have hd : pool / 2 ^ (64 - held) = valAt T i held := by rw [hp, Nat.mul_div_cancel _ (Nat.two_pow_pos _)]
  refine first_one (n := held) z hl ?_ ?_
  · rw [← hd]
    refine Nat.div_lt_of_lt_mul ?_
    rw [← Nat.pow_add, show 64 - held + (held - z) = 64 - z by omega]
    exact a
  · rw [← hd]
    refine (Nat.le_div_iff_mul_le (Nat.two_pow_pos _)).2 ?_
    rw [← Nat.pow_add, show held - z - 1 + (64 - held) = 64 - z - 1 by omega]
    exact b
theorem PoolOk.none {T : List Nat} {i pool held z : Nat} (h : PoolOk T i pool held) (hz : z = 64 - Lib.bitLen pool) (hl : held ≤ z) : Zeros T i held := by
  have hlt := h.lt
  obtain ⟨h1, hp⟩ := h
  by_cases h0 : pool = 0
  · refine val_zeros ?_
    rw [hp] at h0
    rcases Nat.mul_eq_zero.1 h0 with h2 | h2
    · exact h2
    · have := Nat.two_pow_pos (64 - held); omega
  · obtain ⟨a, b, c⟩ := bitLen_bounds 64 pool hlt (by omega) h0
    refine val_zeros ?_
    have hd : pool / 2 ^ (64 - held) = valAt T i held := by rw [hp, Nat.mul_div_cancel _ (Nat.two_pow_pos _)]
    rw [← hd]
    have d := Lib.bitLen_le pool 64 (by omega) hlt
    exact Nat.div_eq_of_lt (Nat.lt_of_lt_of_le a (Nat.pow_le_pow_right (by omega) (by omega)))
/-- The first one of a byte. -/
theorem byte_clz {T : List Nat} {j z : Nat} (hx : T.getD j 0 < 256) (h0 : T.getD j 0 ≠ 0) (hz : z = 8 - Lib.bitLen (T.getD j 0)) : Zeros T (8 * j) z ∧ bitAt T (8 * j + z) = 1 ∧ z < 8 := by
  obtain ⟨a, b, c⟩ := bitLen_bounds 8 (T.getD j 0) hx (by omega) h0
  have d := Lib.bitLen_le (T.getD j 0) 8 (by omega) hx
  have ez : Lib.bitLen (T.getD j 0) = 8 - z := by omega
  rw [ez] at a b
  have hv := valAt_byte T j hx
  have := first_one (T := T) (i := 8 * j) (n := 8) z (by omega) (by rw [hv]; exact a) (by rw [hv]; exact b)
  exact ⟨this.1, this.2, by omega⟩
theorem byte_zero {T : List Nat} {j : Nat} (h0 : T.getD j 0 = 0) : Zeros T (8 * j) 8 := by
  refine val_zeros ?_
  rw [valAt_byte T j (by omega), h0]
end Go.Proofs.YtgkenhmbilkhdaaGreatDoor

namespace Go.Proofs.YtgkenhmbilkhdaaGreatDoor

/-! ### eight bytes at once into the reservoir -/
theorem or_add (a x k : Nat) (h : x < 2 ^ k) : a * 2 ^ k ||| x = a * 2 ^ k + x := by
  rw [Nat.mul_comm, ← Nat.two_pow_add_eq_or_of_lt h]

/-- Eight bytes as a number, the first of them highest. -/
def word8 (b0 b1 b2 b3 b4 b5 b6 b7 : Nat) : Nat := ((((((b0 * 72057594037927936 ||| b1 * 281474976710656) ||| b2 * 1099511627776) ||| b3 * 4294967296) ||| b4 * 16777216) ||| b5 * 65536) ||| b6 * 256) ||| b7
theorem word8_eq (b0 b1 b2 b3 b4 b5 b6 b7 : Nat) (h1 : b1 < 256) (h2 : b2 < 256) (h3 : b3 < 256) (h4 : b4 < 256) (h5 : b5 < 256) (h6 : b6 < 256) (h7 : b7 < 256) :
    word8 b0 b1 b2 b3 b4 b5 b6 b7 = ((((((b0 * 256 + b1) * 256 + b2) * 256 + b3) * 256 + b4) * 256 + b5) * 256 + b6) * 256 + b7 := by
  unfold word8
  have e1 := or_add b0 (b1 * 281474976710656) 56 (by omega)
  have e2 := or_add (b0 * 256 + b1) (b2 * 1099511627776) 48 (by omega)
  have e3 := or_add ((b0 * 256 + b1) * 256 + b2) (b3 * 4294967296) 40 (by omega)
  have e4 := or_add (((b0 * 256 + b1) * 256 + b2) * 256 + b3) (b4 * 16777216) 32 (by omega)
  have e5 := or_add ((((b0 * 256 + b1) * 256 + b2) * 256 + b3) * 256 + b4) (b5 * 65536) 24 (by omega)
  have e6 := or_add (((((b0 * 256 + b1) * 256 + b2) * 256 + b3) * 256 + b4) * 256 + b5) (b6 * 256) 16 (by omega)
  have e7 := or_add ((((((b0 * 256 + b1) * 256 + b2) * 256 + b3) * 256 + b4) * 256 + b5) * 256 + b6) b7 8 (by omega)
  simp only [Nat.reducePow] at e1 e2 e3 e4 e5 e6 e7
  rw [e1, show b0 * 72057594037927936 + b1 * 281474976710656 = (b0 * 256 + b1) * 281474976710656 by omega]
  rw [e2, show (b0 * 256 + b1) * 281474976710656 + b2 * 1099511627776 = ((b0 * 256 + b1) * 256 + b2) * 1099511627776 by omega]
  rw [e3, show ((b0 * 256 + b1) * 256 + b2) * 1099511627776 + b3 * 4294967296 = (((b0 * 256 + b1) * 256 + b2) * 256 + b3) * 4294967296 by omega]
  rw [e4, show (((b0 * 256 + b1) * 256 + b2) * 256 + b3) * 4294967296 + b4 * 16777216 = ((((b0 * 256 + b1) * 256 + b2) * 256 + b3) * 256 + b4) * 16777216 by omega]
  rw [e5, show ((((b0 * 256 + b1) * 256 + b2) * 256 + b3) * 256 + b4) * 16777216 + b5 * 65536 = (((((b0 * 256 + b1) * 256 + b2) * 256 + b3) * 256 + b4) * 256 + b5) * 65536 by omega]
  rw [e6, show (((((b0 * 256 + b1) * 256 + b2) * 256 + b3) * 256 + b4) * 256 + b5) * 65536 + b6 * 256 = ((((((b0 * 256 + b1) * 256 + b2) * 256 + b3) * 256 + b4) * 256 + b5) * 256 + b6) * 256 by omega]
  exact e7
theorem valAt_bytes (T : List Nat) (j : Nat) (hx : ∀ k, T.getD k 0 < 256) : ∀ n, valAt T (8 * j) (8 * (n + 1)) = valAt T (8 * j) (8 * n) * 256 + T.getD (j + n) 0 := by
  intro n
  rw [show 8 * (n + 1) = 8 * n + 8 by omega, valAt_add, show 8 * j + 8 * n = 8 * (j + n) by omega, valAt_byte T (j + n) (hx _)]
theorem valAt_word (T : List Nat) (j : Nat) (hx : ∀ k, T.getD k 0 < 256) :
    word8 (T.getD j 0) (T.getD (j + 1) 0) (T.getD (j + 2) 0) (T.getD (j + 3) 0) (T.getD (j + 4) 0) (T.getD (j + 5) 0) (T.getD (j + 6) 0) (T.getD (j + 7) 0) = valAt T (8 * j) 64 := by
  rw [word8_eq _ _ _ _ _ _ _ _ (hx _) (hx _) (hx _) (hx _) (hx _) (hx _) (hx _)]
  have e := valAt_bytes T j hx
  rw [show (64 : Nat) = 8 * (7 + 1) from rfl, e 7, show (8 * 7 : Nat) = 8 * (6 + 1) from rfl, e 6, show (8 * 6 : Nat) = 8 * (5 + 1) from rfl, e 5, show (8 * 5 : Nat) = 8 * (4 + 1) from rfl, e 4, show (8 * 4 : Nat) = 8 * (3 + 1) from rfl, e 3, show (8 * 3 : Nat) = 8 * (2 + 1) from rfl, e 2, show (8 * 2 : Nat) = 8 * (1 + 1) from rfl, e 1, show (8 * 1 : Nat) = 8 * (0 + 1) from rfl, e 0]
  simp [valAt]
theorem PoolOk.fill8 {T : List Nat} {i pool held j room W : Nat} (h : PoolOk T i pool held) (hj : i + held = 8 * j) (hr : room ≤ 64 - held) (hW : W = valAt T (8 * j) 64) :
    PoolOk T i (pool ||| W / 2 ^ (64 - room) * 2 ^ (64 - room) / 2 ^ held) (held + room) := by
  obtain ⟨h1, rfl⟩ := h
  refine ⟨by omega, ?_⟩
  have e0 : W / 2 ^ (64 - room) = valAt T (8 * j) room := by
    rw [hW]
    have := valAt_div T (8 * j) room (64 - room)
    rwa [show room + (64 - room) = 64 by omega] at this
  have e1 : valAt T (8 * j) room * 2 ^ (64 - room) / 2 ^ held = valAt T (8 * j) room * 2 ^ (64 - held - room) := by
    rw [show 64 - room = (64 - held - room) + held by omega, Nat.pow_add, ← Nat.mul_assoc, Nat.mul_div_cancel _ (Nat.two_pow_pos _)]
  have l : valAt T (8 * j) room * 2 ^ (64 - held - room) < 2 ^ (64 - held) := by
    have := Nat.mul_lt_mul_of_pos_right (valAt_lt T (8 * j) room) (Nat.two_pow_pos (64 - held - room))
    rwa [← Nat.pow_add, show room + (64 - held - room) = 64 - held by omega] at this
  rw [e0, e1, or_add _ _ _ l, valAt_add T i held room, hj, Nat.add_mul, Nat.mul_assoc, ← Nat.pow_add, show room + (64 - (held + room)) = 64 - held by omega, show 64 - (held + room) = 64 - held - room by omega]

/-! ### numbers with their signs -/
def sgn (n v : Nat) : Int := if 0 < n ∧ 2 ^ (n - 1) ≤ v then (v : Int) - 2 ^ n else v
theorem pool_sgn {T : List Nat} {i pool held n : Nat} (h : PoolOk T i pool held) (hn : n ≤ held) (h0 : 0 < n) :
    (if 9223372036854775808 ≤ pool then (pool : Int) - 18446744073709551616 else pool) / ((2 ^ (64 - n) : Nat) : Int) = sgn n (valAt T i n) := by
  have hp := h.take hn
  have hl := h.lt
  have h64 := h.1
  obtain ⟨k, hk⟩ : ∃ k, k = 64 - n := ⟨_, rfl⟩
  rw [← hk] at hp ⊢
  have e2 : (2 : Nat) ^ 63 = 2 ^ (n - 1) * 2 ^ k := by rw [← Nat.pow_add]; congr 1; omega
  have e3 : (18446744073709551616 : Int) = 2 ^ n * ((2 ^ k : Nat) : Int) := by
    have : (2 : Nat) ^ 64 = 2 ^ n * 2 ^ k := by rw [← Nat.pow_add]; congr 1; omega
    have h' : ((2 ^ 64 : Nat) : Int) = ((2 ^ n * 2 ^ k : Nat) : Int) := by rw [this]
    rw [Int.natCast_mul, Int.natCast_pow 2 n] at h'
    exact h'
  have hpos : 0 < 2 ^ k := Nat.two_pow_pos k
  unfold sgn
  by_cases hb : 9223372036854775808 ≤ pool
  · have : 2 ^ (n - 1) ≤ valAt T i n := by
      rw [← hp]
      refine (Nat.le_div_iff_mul_le hpos).2 ?_
      rw [← e2]
      exact hb
    rw [if_pos hb, if_pos ⟨h0, this⟩, e3, ← hp, Int.sub_mul_ediv_right _ _ (by omega)]
    rfl
  · have : ¬ 2 ^ (n - 1) ≤ valAt T i n := by
      rw [← hp]
      intro h'
      have := (Nat.le_div_iff_mul_le hpos).1 h'
      rw [← e2] at this
      omega
    rw [if_neg hb, if_neg (fun h' => this h'.2), ← hp]
    rfl
end Go.Proofs.YtgkenhmbilkhdaaGreatDoor

namespace Go.Proofs.YtgkenhmbilkhdaaGreatDoor

/-! What comes of a source: its bytes, and the stop's number behind them (1, 14, 16). A part of a stream: from a bit on, an error's number, or a value and the bit behind it. -/
structure Inp where
  T : List Nat
  st : Nat

def stopE (st : Nat) : Nat := if st = 1 then 3 else st
abbrev Par (α : Type) := Inp → Nat → Except Nat (α × Nat)

def Par.ret {α : Type} (a : α) : Par α := fun _ i => .ok (a, i)
def Par.fail {α : Type} (e : Nat) : Par α := fun _ _ => .error e
def Par.bind {α β : Type} (p : Par α) (f : α → Par β) : Par β := fun I i =>
  match p I i with
  | .ok (a, j) => f a I j
  | .error e => .error e
def Par.check (b : Bool) (e : Nat) : Par Unit := fun _ i => if b then .ok ((), i) else .error e
def Par.map {α β : Type} (f : α → β) (p : Par α) : Par β := fun I i =>
  match p I i with
  | .ok (a, j) => .ok (f a, j)
  | .error e => .error e

theorem Par.bind_ok {α β : Type} {p : Par α} {f : α → Par β} {I : Inp} {i j : Nat} {a : α} (h : p I i = .ok (a, j)) : p.bind f I i = f a I j := by
  unfold Par.bind; rw [h]
theorem Par.bind_err {α β : Type} {p : Par α} {f : α → Par β} {I : Inp} {i e : Nat} (h : p I i = .error e) : p.bind f I i = .error e := by
  unfold Par.bind; rw [h]
theorem Par.bind_assoc {α β γ : Type} (p : Par α) (f : α → Par β) (g : β → Par γ) : (p.bind f).bind g = p.bind fun a => (f a).bind g := by
  funext I i
  unfold Par.bind
  cases p I i with
  | error e => rfl
  | ok x => rfl
theorem Par.ret_bind {α β : Type} (a : α) (f : α → Par β) : (Par.ret a).bind f = f a := rfl

def rd (n : Nat) : Par Nat := fun I i => if i + n ≤ 8 * I.T.length then .ok (valAt I.T i n, i + n) else .error (stopE I.st)
/-- How many noughts stand ahead of the next one, among n bits. -/
def ones (T : List Nat) (i : Nat) : Nat → Option Nat
  | 0 => none
  | n + 1 => if bitAt T i = 1 then some 0 else (ones T (i + 1) n).map (· + 1)
def un : Par Nat := fun I i =>
  match ones I.T i (8 * I.T.length - i) with
  | some q => .ok (q, i + q + 1)
  | none => .error (stopE I.st)
def sg (n : Nat) : Par Int := Par.map (sgn n) (rd n)
def restOf (i : Nat) : Nat := (8 - i % 8) % 8

theorem ones_some {T : List Nat} : ∀ {n i q : Nat}, Zeros T i q → bitAt T (i + q) = 1 → q < n → ones T i n = some q
  | 0, _, _, _, _, h => by omega
  | n + 1, i, 0, _, h1, _ => by unfold ones; rw [if_pos (by simpa using h1)]
  | n + 1, i, q + 1, hz, h1, hq => by
    unfold ones
    have h0 := hz 0 (by omega)
    rw [Nat.add_zero] at h0
    rw [if_neg (by omega), ones_some (n := n) (i := i + 1) (q := q) (fun j hj => by have := hz (j + 1) (by omega); rwa [show i + (j + 1) = i + 1 + j by omega] at this) (by rwa [show i + 1 + q = i + (q + 1) by omega]) (by omega)]
    rfl
theorem ones_none {T : List Nat} : ∀ {n i : Nat}, Zeros T i n → ones T i n = none
  | 0, _, _ => rfl
  | n + 1, i, hz => by
    unfold ones
    have h0 := hz 0 (by omega)
    rw [Nat.add_zero] at h0
    rw [if_neg (by omega), ones_none (n := n) (i := i + 1) (fun j hj => by have := hz (j + 1) (by omega); rwa [show i + (j + 1) = i + 1 + j by omega] at this)]
    rfl
theorem un_some {I : Inp} {i q : Nat} (hz : Zeros I.T i q) (h1 : bitAt I.T (i + q) = 1) (hq : i + q < 8 * I.T.length) : un I i = .ok (q, i + q + 1) := by
  unfold un
  rw [ones_some hz h1 (by omega)]
theorem un_none {I : Inp} {i : Nat} (hz : Zeros I.T i (8 * I.T.length - i)) : un I i = .error (stopE I.st) := by
  unfold un
  rw [ones_none hz]
theorem rd_ok {I : Inp} {i n : Nat} (h : i + n ≤ 8 * I.T.length) : rd n I i = .ok (valAt I.T i n, i + n) := by unfold rd; rw [if_pos h]
theorem rd_no {I : Inp} {i n : Nat} (h : ¬ i + n ≤ 8 * I.T.length) : rd n I i = .error (stopE I.st) := by unfold rd; rw [if_neg h]

/-! ### the head -/
structure Info where
  minB : Nat
  maxB : Nat
  minF : Nat
  maxF : Nat
  rate : Nat
  chans : Nat
  depth : Nat
  total : Nat
  sum : List Nat

def bytesP : Nat → Par (List Nat)
  | 0 => .ret []
  | n + 1 => (rd 8).bind fun b => (bytesP n).bind fun l => .ret (b :: l)
def infoP : Par Info :=
  (rd 16).bind fun a => (rd 16).bind fun b => (rd 24).bind fun c => (rd 24).bind fun d => (rd 20).bind fun r => (rd 3).bind fun h => (rd 5).bind fun t => (rd 36).bind fun n => (bytesP 16).bind fun s =>
  .ret ⟨a, b, c, d, r, h + 1, t + 1, n, s⟩
def Info.ok (i : Info) : Bool := 16 ≤ i.minB && i.minB ≤ i.maxB && i.maxB ≤ 4096 && 4 ≤ i.depth && 0 < i.rate
/-- A block's own head: is it the last, its kind, its length. -/
def metaP : Par (Nat × Nat × Nat) := (rd 1).bind fun l => (rd 7).bind fun k => (rd 24).bind fun n => .ret (l, k, n)
def firstP : Par (Nat × Info) := metaP.bind fun m => (Par.check (m.2.1 = 0 ∧ m.2.2 = 34) 5).bind fun _ => infoP.bind fun i => (Par.check i.ok 4).bind fun _ => .ret (m.1, i)
def laterP : Par Nat := metaP.bind fun m => (Par.check (m.2.1 ≠ 0 ∧ m.2.1 ≠ 127) 5).bind fun _ => (rd (8 * m.2.2)).bind fun _ => .ret m.1
/-- Later blocks, up to the last: where they end; or the error and where its block begins. -/
def laters (I : Inp) : Nat → Nat → Except (Nat × Nat) Nat
  | 0, i => .ok i
  | n + 1, i =>
    match laterP I i with
    | .ok (1, j) => .ok j
    | .ok (_, j) => laters I n j
    | .error e => .error (e, i / 8)
def markP : Par Unit := (rd 32).bind fun v => Par.check (v = 1716281667) 2
def openP (I : Inp) : Except (Nat × Nat) (Info × Nat) :=
  match markP I 0 with
  | .error e => .error (e, 0)
  | .ok (_, i) =>
    match firstP I i with
    | .error e => .error (e, i / 8)
    | .ok ((1, info), j) => .ok (info, j)
    | .ok ((_, info), j) =>
      match laters I (I.T.length + 1) j with
      | .error e => .error e
      | .ok k => .ok (info, k)

/-! ### a frame's head -/
structure FHead where
  vary : Bool
  number : Nat
  size : Nat
  rate : Nat
  pair : Nat
  depth : Nat

def lead (b : Nat) : Nat := if b < 128 then 0 else if b < 192 then 1 else if b < 224 then 2 else if b < 240 then 3 else if b < 248 then 4 else if b < 252 then 5 else if b < 254 then 6 else if b < 255 then 7 else 8
def moreP : Nat → Nat → Par Nat
  | 0, v => .ret v
  | n + 1, v => (rd 8).bind fun c => (Par.check (c / 64 = 2) 8).bind fun _ => moreP n (64 * v + c % 64)
def numberP (vary : Bool) : Par Nat := (rd 8).bind fun b =>
  if b < 128 then .ret b
  else (Par.check (2 ≤ lead b ∧ (lead b ≤ 6 ∨ lead b = 7 ∧ vary)) 8).bind fun _ => moreP (lead b - 1) (b % 2 ^ (7 - lead b))
def sizeP (code : Nat) : Par Nat :=
  if code = 1 then .ret 192
  else if code ≤ 5 then .ret (144 * 2 ^ code)
  else if code = 6 then Par.map (· + 1) (rd 8)
  else if code = 7 then Par.map (· + 1) (rd 16)
  else .ret (2 ^ code)
def rateTab : List Nat := [0, 88200, 176400, 192000, 8000, 16000, 22050, 24000, 32000, 44100, 48000, 96000]
def depthTab : List Nat := [0, 8, 12, 0, 16, 20, 24, 32]
def rateP (code : Nat) : Par Nat :=
  if code = 12 then Par.map (1000 * ·) (rd 8)
  else if code = 13 then rd 16
  else if code = 14 then Par.map (10 * ·) (rd 16)
  else .ret (rateTab.getD code 0)
/-- The bytes of the frame that begins at byte b, up to bit i. -/
def since (I : Inp) (b i : Nat) : List Nat := (I.T.take (i / 8)).drop b
def crc8P (b : Nat) : Par Unit := fun I i => ((rd 8).bind fun v => Par.check (v = crc8 0 (since I b i)) 9) I i
def crc16P (b : Nat) : Par Unit := fun I i => ((rd 16).bind fun v => Par.check (v = crc16 0 (since I b i)) 12) I i
def fheadP (b : Nat) : Par FHead :=
  (rd 15).bind fun s => (Par.check (s = 32764) 6).bind fun _ => (rd 1).bind fun v =>
  (rd 4).bind fun z => (Par.check (z ≠ 0) 7).bind fun _ => (rd 4).bind fun r => (Par.check (r ≠ 15) 7).bind fun _ =>
  (rd 4).bind fun p => (Par.check (p ≤ 10) 7).bind fun _ => (rd 3).bind fun d => (Par.check (d ≠ 3) 7).bind fun _ =>
  (rd 1).bind fun o => (Par.check (o = 0) 7).bind fun _ => (numberP (v = 1)).bind fun n => (sizeP z).bind fun size => (rateP r).bind fun rate =>
  (crc8P b).bind fun _ => .ret ⟨v = 1, n, size, rate, p, depthTab.getD d 0⟩
def FHead.chans (h : FHead) : Nat := if 8 ≤ h.pair then 2 else h.pair + 1

/-! ### subframes -/
def nums (n : Nat) : Nat → Par (List Int)
  | 0 => .ret []
  | m + 1 => (sg n).bind fun v => (nums n m).bind fun l => .ret (v :: l)
def zig (v : Nat) : Int := if v % 2 = 0 then ((v / 2 : Nat) : Int) else -(((v + 1) / 2 : Nat) : Int)
def residP (p : Nat) : Par Int := un.bind fun q => (Par.check (q * 2 ^ p < 4294967296) 11).bind fun _ => (rd p).bind fun r => (Par.check (q * 2 ^ p + r ≠ 4294967295) 11).bind fun _ => .ret (zig (q * 2 ^ p + r))
def resids (p : Nat) : Nat → Par (List Int)
  | 0 => .ret []
  | m + 1 => (residP p).bind fun v => (resids p m).bind fun l => .ret (v :: l)
def partP (width m : Nat) : Par (List Int) := (rd width).bind fun p => if p = 2 ^ width - 1 then (rd 5).bind fun n => nums n m else resids p m
def partsP (width size : Nat) : Nat → Par (List Int)
  | 0 => .ret []
  | n + 1 => (partP width size).bind fun l => (partsP width size n).bind fun r => .ret (l ++ r)
def residualsP (n order : Nat) : Par (List Int) := (rd 2).bind fun m => (Par.check (m ≤ 1) 7).bind fun _ => (rd 4).bind fun p =>
  (Par.check (n % 2 ^ p = 0 ∧ order ≤ n / 2 ^ p) 7).bind fun _ => (partP (4 + m) (n / 2 ^ p - order)).bind fun l => (partsP (4 + m) (n / 2 ^ p) (2 ^ p - 1)).bind fun r => .ret (l ++ r)
def fitsB (v : Int) (n : Nat) : Bool := -(2 ^ (n - 1) : Int) ≤ v ∧ v < 2 ^ (n - 1)
/-- The sum of a rule over the samples ahead, the last of them first. -/
def dot : List Int → List Int → Int
  | c :: cs, x :: xs => c * x + dot cs xs
  | _, _ => 0
/-- back: the samples so far, the last first. -/
def foretell (c : List Int) (shift depth : Nat) : List Int → List Int → Option (List Int)
  | back, [] => some back
  | back, r :: rs => let v := r + dot c back / 2 ^ shift; if fitsB v depth then foretell c shift depth (v :: back) rs else none
def foretoldP (x : List Int) (n : Nat) (c : List Int) (shift depth : Nat) : Par (List Int) := (residualsP n c.length).bind fun rs =>
  match foretell c shift depth x.reverse rs with
  | some l => .ret l.reverse
  | none => .fail 11
def rules : List (List Int) := [[], [1], [2, -1], [3, -3, 1], [4, -6, 4, -1]]
def fixedP (n order depth : Nat) : Par (List Int) := (Par.check (order ≤ n) 7).bind fun _ => (nums depth order).bind fun x => foretoldP x n (rules.getD order []) 0 depth
def linearP (n order depth : Nat) : Par (List Int) := (Par.check (order ≤ n) 7).bind fun _ => (nums depth order).bind fun x => (rd 4).bind fun p => (Par.check (p ≠ 15) 7).bind fun _ =>
  (rd 5).bind fun s => (Par.check (s < 16) 7).bind fun _ => (nums (p + 1) order).bind fun c => foretoldP x n c s depth
def samplesP (kind n depth : Nat) : Par (List Int) :=
  if kind = 0 then (sg depth).bind fun v => .ret (List.replicate n v)
  else if kind = 1 then nums depth n
  else if 8 ≤ kind ∧ kind ≤ 12 then fixedP n (kind - 8) depth
  else if 32 ≤ kind then linearP n (kind - 31) depth
  else .fail 7
def wastedP : Par Nat := (rd 1).bind fun w => if w = 0 then .ret 0 else Par.map (· + 1) un
def subP (depth n : Nat) : Par (List Int) := (rd 1).bind fun z => (Par.check (z = 0) 7).bind fun _ => (rd 6).bind fun k => wastedP.bind fun w => (Par.check (w < depth) 7).bind fun _ =>
  (samplesP k n (depth - w)).bind fun l => .ret (l.map (· * 2 ^ w))
def sideOf (pair c : Nat) : Nat := if c = 0 ∧ pair = 9 ∨ c = 1 ∧ (pair = 8 ∨ pair = 10) then 1 else 0
def subsP (pair depth n : Nat) : Nat → Nat → Par (List (List Int))
  | 0, _ => .ret []
  | m + 1, c => (subP (depth + sideOf pair c) n).bind fun l => (subsP pair depth n m (c + 1)).bind fun r => .ret (l :: r)
def alignP : Par Bool := fun I i => Par.map (· = 0) (rd (restOf i)) I i
def footP (b : Nat) : Par Unit := alignP.bind fun z => (Par.check z 7).bind fun _ => crc16P b

/-! ### pairs -/
def pairOf (pair : Nat) (a b : Int) : Int × Int :=
  if pair = 8 then (a, a - b)
  else if pair = 9 then (a + b, b)
  else ((2 * a + b % 2 + b) / 2, (2 * a + b % 2 - b) / 2)
def joinL (pair depth : Nat) : List Int → List Int → Option (List Int × List Int)
  | a :: xs, b :: ys =>
    let x := pairOf pair a b
    if fitsB x.1 depth && fitsB x.2 depth then (joinL pair depth xs ys).map fun r => (x.1 :: r.1, x.2 :: r.2) else none
  | _, _ => some ([], [])
def joinP (pair depth : Nat) (l : List (List Int)) : Par (List (List Int)) :=
  if 8 ≤ pair then
    match joinL pair depth (l.getD 0 []) (l.getD 1 []) with
    | some r => .ret [r.1, r.2]
    | none => .fail 11
  else .ret l

/-! ### the decoder -/
structure Dec where
  info : Info
  pos : Nat
  frame : Nat
  first : Nat
  vary : Bool
  laid : List Nat

def Dec.fits (d : Dec) (h : FHead) : Bool :=
  (d.frame = 0 ∨ h.vary = d.vary) ∧ h.number = (if h.vary then d.first else d.frame) ∧ h.size ≤ d.info.maxB ∧ h.chans = d.info.chans ∧ (h.rate = 0 ∨ h.rate = d.info.rate) ∧ (h.depth = 0 ∨ h.depth = d.info.depth)
def frameP (d : Dec) : Par (FHead × List (List Int)) := (fheadP d.pos).bind fun h => (Par.check (d.fits h) 10).bind fun _ =>
  (subsP h.pair d.info.depth h.size d.info.chans 0).bind fun l => (footP d.pos).bind fun _ => (joinP h.pair d.info.depth l).bind fun l => .ret (h, l)
/-- A sample's bytes, the lowest first. -/
def le (v : Int) : Nat → List Nat
  | 0 => []
  | n + 1 => (v % 256).toNat :: le (v / 256) n
def layAt (w : Nat) (l : List (List Int)) (i : Nat) : List Nat := l.flatMap fun c => le (c.getD i 0) w
def layL (w : Nat) (l : List (List Int)) : List Nat := (List.range (l.getD 0 []).length).flatMap (layAt w l)
end Go.Proofs.YtgkenhmbilkhdaaGreatDoor
