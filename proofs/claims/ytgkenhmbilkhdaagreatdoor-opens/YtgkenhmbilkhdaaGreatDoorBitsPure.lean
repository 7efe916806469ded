import Derived.Lib.BitFns
namespace Go.Proofs.YtgkenhmbilkhdaaGreatDoor

/-! What a source yields, and the bits of a text: plain numbers. N: the text's length; br: where it is broken; a: how much has come; e: reads of nothing in a row. The result: how much comes in all, and the stop's number. -/
def finalOf (N : Nat) (br : Int) : Nat × Nat := if 0 ≤ br ∧ br ≤ N then (br.toNat, 16) else (N, 1)
def clip (br : Int) (a : Nat) : Nat := if 0 ≤ br ∧ br < a then br.toNat else a
def ofFrom (N : Nat) (br : Int) : List Int → Nat → Nat → Nat × Nat
  | [], _, _ => finalOf N br
  | p :: ps, a, e =>
    if 0 ≤ br ∧ br ≤ a then (a, 16)
    else if p ≤ 0 then (if 8 ≤ e then (a, 14) else ofFrom N br ps a (e + 1))
    else if (N : Int) - a < p then finalOf N br
    else ofFrom N br ps (clip br (a + p.toNat)) 0
def srcRes (N : Nat) (br : Int) (P : List Int) (a left k e : Nat) : Nat × Nat :=
  if left = 0 then ofFrom N br (P.drop k) a e
  else if N < a + left then finalOf N br
  else ofFrom N br (P.drop k) (clip br (a + left)) 0
/-- Where a source may stand. -/
def SrcOk (N : Nat) (br : Int) (a : Nat) : Prop := a ≤ N ∧ (0 ≤ br → (a : Int) ≤ br)

theorem clip_ok {N : Nat} {br : Int} {a b : Nat} (h : SrcOk N br a) (hb : a ≤ b) (hN : b ≤ N) : SrcOk N br (clip br b) ∧ a ≤ clip br b := by
  have h1 := h.1
  have h2 := h.2
  unfold clip SrcOk
  split <;> omega

theorem final_ge {N : Nat} {br : Int} {a : Nat} (h : SrcOk N br a) : a ≤ (finalOf N br).1 ∧ (finalOf N br).1 ≤ N := by
  have h1 := h.1
  have h2 := h.2
  unfold finalOf
  split
  · show a ≤ br.toNat ∧ br.toNat ≤ N
    omega
  · exact ⟨h1, Nat.le_refl _⟩
theorem final_stop (N : Nat) (br : Int) : (finalOf N br).2 = 1 ∨ (finalOf N br).2 = 14 ∨ (finalOf N br).2 = 16 := by
  unfold finalOf
  split
  · exact Or.inr (Or.inr rfl)
  · exact Or.inl rfl

theorem of_ge {N : Nat} {br : Int} : ∀ (P : List Int) (a e : Nat), SrcOk N br a → a ≤ (ofFrom N br P a e).1 ∧ (ofFrom N br P a e).1 ≤ N := by
  intro P
  induction P with
  | nil => intro a e h; exact final_ge h
  | cons p ps ih =>
    intro a e h
    unfold ofFrom
    split
    · exact ⟨Nat.le_refl _, h.1⟩
    split
    · split
      · exact ⟨Nat.le_refl _, h.1⟩
      · exact ih a _ h
    split
    · exact final_ge h
    · rename_i h1 h2 h3
      have hc := clip_ok h (show a ≤ a + p.toNat by omega) (by have := h.1; omega)
      have := ih (clip br (a + p.toNat)) 0 hc.1
      exact ⟨Nat.le_trans hc.2 this.1, this.2⟩
theorem of_stop {N : Nat} {br : Int} : ∀ (P : List Int) (a e : Nat), (ofFrom N br P a e).2 = 1 ∨ (ofFrom N br P a e).2 = 14 ∨ (ofFrom N br P a e).2 = 16 := by
  intro P
  induction P with
  | nil => intro a e; exact final_stop N br
  | cons p ps ih =>
    intro a e
    unfold ofFrom
    split
    · exact Or.inr (Or.inr rfl)
    split
    · split
      · exact Or.inr (Or.inl rfl)
      · exact ih a _
    split
    · exact final_stop N br
    · exact ih _ 0
theorem res_ge {N : Nat} {br : Int} {P : List Int} {a left k e : Nat} (h : SrcOk N br a) : a ≤ (srcRes N br P a left k e).1 ∧ (srcRes N br P a left k e).1 ≤ N := by
  unfold srcRes
  split
  · exact of_ge _ _ _ h
  split
  · exact final_ge h
  · rename_i h1 h2
    have hc := clip_ok h (show a ≤ a + left by omega) (by omega)
    have := of_ge (P.drop k) _ 0 hc.1
    exact ⟨Nat.le_trans hc.2 this.1, this.2⟩
theorem res_stop (N : Nat) (br : Int) (P : List Int) (a left k e : Nat) : (srcRes N br P a left k e).2 = 1 ∨ (srcRes N br P a left k e).2 = 14 ∨ (srcRes N br P a left k e).2 = 16 := by
  unfold srcRes
  split
  · exact of_stop _ _ _
  split
  · exact final_stop _ _
  · exact of_stop _ _ _

theorem of_broken {N : Nat} {br : Int} (P : List Int) {a : Nat} (e : Nat) (h : SrcOk N br a) (h0 : 0 ≤ br) (hb : br ≤ a) : ofFrom N br P a e = (a, 16) := by
  have h1 := h.1
  have h2 := h.2 h0
  cases P with
  | nil =>
    unfold ofFrom finalOf
    rw [if_pos (by omega)]
    congr 1
    omega
  | cons p ps =>
    unfold ofFrom
    rw [if_pos ⟨h0, hb⟩]
theorem res_broken {N : Nat} {br : Int} {P : List Int} {a left k e : Nat} (h : SrcOk N br a) (h0 : 0 ≤ br) (hb : br ≤ a) : srcRes N br P a left k e = (a, 16) := by
  have h1 := h.1
  have h2 := h.2 h0
  unfold srcRes
  split
  · exact of_broken _ _ h h0 hb
  split
  · unfold finalOf
    rw [if_pos (by omega)]
    congr 1
    omega
  · have hc := clip_ok h (show a ≤ a + left by omega) (by omega)
    have hca : clip br (a + left) = a := by have := hc.1.2 h0; omega
    rw [hca]
    exact of_broken _ _ h h0 hb
theorem drop_at {P : List Int} {k : Nat} {p : Int} (hp : P[k]? = some p) : P.drop k = p :: P.drop (k + 1) := by
  obtain ⟨hk, rfl⟩ := List.getElem?_eq_some_iff.1 hp
  exact List.drop_eq_getElem_cons hk
theorem res_empty {N : Nat} {br : Int} {P : List Int} {a k e : Nat} {p : Int} (hn : ¬ (0 ≤ br ∧ br ≤ a)) (hp : P[k]? = some p) (h0 : p ≤ 0) (he : e < 8) : srcRes N br P a 0 (k + 1) (e + 1) = srcRes N br P a 0 k e := by
  unfold srcRes
  rw [if_pos rfl, if_pos rfl, drop_at hp]
  conv => rhs; unfold ofFrom
  rw [if_neg hn, if_pos h0, if_neg (by omega)]
theorem res_stuck {N : Nat} {br : Int} {P : List Int} {a k : Nat} {p : Int} (hn : ¬ (0 ≤ br ∧ br ≤ a)) (hp : P[k]? = some p) (h0 : p ≤ 0) : srcRes N br P a 0 k 8 = (a, 14) := by
  unfold srcRes
  rw [if_pos rfl, drop_at hp]
  unfold ofFrom
  rw [if_neg hn, if_pos h0, if_pos (by omega)]
theorem res_piece {N : Nat} {br : Int} {P : List Int} {a k e e' : Nat} {p : Int} (hn : ¬ (0 ≤ br ∧ br ≤ a)) (hp : P[k]? = some p) (h0 : 0 < p) : srcRes N br P a p.toNat (k + 1) e' = srcRes N br P a 0 k e := by
  unfold srcRes
  rw [if_neg (show ¬ p.toNat = 0 by omega), if_pos (show (0 : Nat) = 0 from rfl), drop_at hp]
  conv => rhs; unfold ofFrom
  rw [if_neg hn, if_neg (show ¬ p ≤ 0 by omega)]
  by_cases h : (N : Int) - a < p
  · rw [if_pos h, if_pos (show N < a + p.toNat by omega)]
  · rw [if_neg h, if_neg (show ¬ N < a + p.toNat by omega)]
theorem res_rest {N : Nat} {br : Int} {P : List Int} {a k e e' : Nat} (hN : N < 1099511627776) (hp : P.length ≤ k) : srcRes N br P a 1099511627776 k e' = srcRes N br P a 0 k e := by
  unfold srcRes
  rw [if_neg (by omega), if_pos rfl, if_pos (by omega), List.drop_eq_nil_of_le hp]
  rfl
theorem res_end {N : Nat} {br : Int} {P : List Int} {a left k e : Nat} (h : SrcOk N br a) (hn : ¬ (0 ≤ br ∧ br ≤ a)) (hl : 0 < left) (ha : N ≤ a) : srcRes N br P a left k e = (a, 1) := by
  have h1 := h.1
  unfold srcRes
  rw [if_neg (by omega), if_pos (by omega)]
  unfold finalOf
  rw [if_neg (by omega)]
  congr 1
  omega
theorem res_give {N : Nat} {br : Int} {P : List Int} {a left k e m : Nat} (h : SrcOk N br a) (hl : 0 < left) (h1 : m ≤ left) (h2 : m ≤ N - a) (h3 : 0 ≤ br → (m : Int) ≤ br - a) :
    srcRes N br P (a + m) (left - m) k 0 = srcRes N br P a left k e ∧ SrcOk N br (a + m) := by
  have g1 := h.1
  have g2 := h.2
  refine ⟨?_, by omega, by omega⟩
  unfold srcRes
  by_cases hN : N < a + left
  · rw [if_neg (show ¬ left - m = 0 by omega), if_neg (show ¬ left = 0 by omega), if_pos (show N < a + m + (left - m) by omega), if_pos hN]
  · rw [if_neg (show ¬ left = 0 by omega), if_neg hN]
    by_cases hm : left - m = 0
    · rw [if_pos hm]
      have hc : clip br (a + left) = a + m := by
        unfold clip
        rw [if_neg (by omega)]
        omega
      rw [hc]
    · rw [if_neg hm, if_neg (by omega), show a + m + (left - m) = a + left by omega]

/-! ### bits -/
def bitAt (T : List Nat) (i : Nat) : Nat := T.getD (i / 8) 0 / 2 ^ (7 - i % 8) % 2
def valAt (T : List Nat) (i : Nat) : Nat → Nat
  | 0 => 0
  | n + 1 => 2 * valAt T i n + bitAt T (i + n)

theorem bitAt_lt (T : List Nat) (i : Nat) : bitAt T i < 2 := Nat.mod_lt _ (by omega)
theorem valAt_lt (T : List Nat) (i : Nat) : ∀ n, valAt T i n < 2 ^ n
  | 0 => by simp [valAt]
  | n + 1 => by
    have := valAt_lt T i n
    have := bitAt_lt T (i + n)
    unfold valAt
    rw [Nat.pow_succ]
    omega
theorem valAt_add (T : List Nat) (i a : Nat) : ∀ b, valAt T i (a + b) = valAt T i a * 2 ^ b + valAt T (i + a) b
  | 0 => by simp [valAt]
  | b + 1 => by
    rw [← Nat.add_assoc, show valAt T i (a + b + 1) = 2 * valAt T i (a + b) + bitAt T (i + (a + b)) from rfl, show valAt T (i + a) (b + 1) = 2 * valAt T (i + a) b + bitAt T (i + a + b) from rfl]
    rw [valAt_add T i a b, Nat.pow_succ, Nat.mul_add, ← Nat.add_assoc i a b]
    have : 2 * (valAt T i a * 2 ^ b) = valAt T i a * (2 ^ b * 2) := by
      rw [Nat.mul_comm (2 ^ b) 2, Nat.mul_left_comm]
    omega
theorem valAt_div (T : List Nat) (i a b : Nat) : valAt T i (a + b) / 2 ^ b = valAt T i a := by
  rw [valAt_add, Nat.mul_comm, Nat.mul_add_div (Nat.two_pow_pos b), Nat.div_eq_of_lt (valAt_lt T (i + a) b), Nat.add_zero]
theorem valAt_mod (T : List Nat) (i a b : Nat) : valAt T i (a + b) % 2 ^ b = valAt T (i + a) b := by
  rw [valAt_add, Nat.mul_comm, Nat.mul_add_mod, Nat.mod_eq_of_lt (valAt_lt T (i + a) b)]

/-- The bits of a byte, from the left, are the byte. -/
theorem byte_bits (x : Nat) (hx : x < 256) : 2 * (2 * (2 * (2 * (2 * (2 * (2 * (2 * 0 + x / 128 % 2) + x / 64 % 2) + x / 32 % 2) + x / 16 % 2) + x / 8 % 2) + x / 4 % 2) + x / 2 % 2) + x / 1 % 2 = x := by omega
theorem bitAt_of (T : List Nat) (j k : Nat) (hk : k < 8) : bitAt T (8 * j + k) = T.getD j 0 / 2 ^ (7 - k) % 2 := by
  unfold bitAt
  rw [show (8 * j + k) / 8 = j by omega, show (8 * j + k) % 8 = k by omega]
theorem valAt_byte (T : List Nat) (j : Nat) (h : T.getD j 0 < 256) : valAt T (8 * j) 8 = T.getD j 0 := by
  have e := byte_bits _ h
  simp only [valAt]
  rw [bitAt_of T j 0 (by omega), bitAt_of T j 1 (by omega), bitAt_of T j 2 (by omega), bitAt_of T j 3 (by omega), bitAt_of T j 4 (by omega), bitAt_of T j 5 (by omega), bitAt_of T j 6 (by omega), bitAt_of T j 7 (by omega)]
  exact e

/-- Only the bytes that are looked at count. -/
theorem bitAt_take (T : List Nat) (L i : Nat) (h : i < 8 * L) : bitAt (T.take L) i = bitAt T i := by
  unfold bitAt
  rw [List.getD_eq_getElem?_getD, List.getD_eq_getElem?_getD, List.getElem?_take, if_pos (by omega)]
theorem valAt_take (T : List Nat) (L i : Nat) : ∀ n, i + n ≤ 8 * L → valAt (T.take L) i n = valAt T i n
  | 0, _ => rfl
  | n + 1, h => by
    unfold valAt
    rw [valAt_take T L i n (by omega), bitAt_take T L (i + n) (by omega)]

/-! ### noughts -/
def Zeros (T : List Nat) (i n : Nat) : Prop := ∀ j, j < n → bitAt T (i + j) = 0
theorem zeros_val {T : List Nat} {i : Nat} : ∀ {n : Nat}, Zeros T i n → valAt T i n = 0
  | 0, _ => rfl
  | n + 1, h => by
    unfold valAt
    rw [zeros_val (fun j hj => h j (by omega)), h n (by omega)]
theorem val_zeros {T : List Nat} {i : Nat} : ∀ {n : Nat}, valAt T i n = 0 → Zeros T i n
  | 0, _ => fun j hj => by omega
  | n + 1, h => by
    unfold valAt at h
    intro j hj
    rcases Nat.lt_or_ge j n with h1 | h1
    · exact val_zeros (n := n) (by omega) j h1
    · obtain rfl : j = n := by omega
      omega
theorem zeros_app {T : List Nat} {i a b : Nat} (h : Zeros T i a) (h' : Zeros T (i + a) b) : Zeros T i (a + b) := by
  intro j hj
  rcases Nat.lt_or_ge j a with h1 | h1
  · exact h j h1
  · have := h' (j - a) (by omega)
    rwa [show i + a + (j - a) = i + j by omega] at this
/-- The first one among n bits: by the number's length. -/
theorem first_one {T : List Nat} {i : Nat} : ∀ {n : Nat} (z : Nat), z < n → valAt T i n < 2 ^ (n - z) → 2 ^ (n - z - 1) ≤ valAt T i n → Zeros T i z ∧ bitAt T (i + z) = 1 := by
  intro n z hz h1 h2
  have e0 : valAt T i (z + (n - z)) / 2 ^ (n - z) = valAt T i z := valAt_div T i z (n - z)
  rw [show z + (n - z) = n by omega, Nat.div_eq_of_lt h1] at e0
  refine ⟨val_zeros e0.symm, ?_⟩
  have e1 : valAt T i (z + 1 + (n - z - 1)) / 2 ^ (n - z - 1) = valAt T i (z + 1) := valAt_div T i (z + 1) (n - z - 1)
  rw [show z + 1 + (n - z - 1) = n by omega] at e1
  have e2 : 1 ≤ valAt T i (z + 1) := by rw [← e1]; exact (Nat.le_div_iff_mul_le (Nat.two_pow_pos _)).2 (by omega)
  unfold valAt at e2
  have := bitAt_lt T (i + z)
  omega
theorem one_not_zeros {T : List Nat} {i n z : Nat} (h : Zeros T i n) (h1 : bitAt T (i + z) = 1) : n ≤ z := by
  rcases Nat.lt_or_ge z n with h2 | h2
  · have := h z h2; omega
  · exact h2

/-! ### bit lengths -/
theorem bitLen_zero : Lib.bitLen 0 = 0 := by unfold Lib.bitLen Lib.bitLenAux; rfl
theorem bitLen_bounds : ∀ (k x : Nat), x < 2 ^ k → k ≤ 64 → x ≠ 0 → x < 2 ^ Lib.bitLen x ∧ 2 ^ (Lib.bitLen x - 1) ≤ x ∧ 1 ≤ Lib.bitLen x := by
  intro k
  induction k with
  | zero => intro x hx _ h0; omega
  | succ k ih =>
    intro x hx hk h0
    have h64 : x < 2 ^ 64 := Nat.lt_of_lt_of_le hx (Nat.pow_le_pow_right (by omega) hk)
    rw [Lib.bitLen_half x h0 h64]
    by_cases h1 : x / 2 = 0
    · rw [h1, bitLen_zero]
      omega
    · obtain ⟨a, b, c⟩ := ih (x / 2) (by rw [Nat.pow_succ] at hx; omega) (by omega) h1
      refine ⟨?_, ?_, by omega⟩
      · rw [Nat.add_comm, Nat.pow_succ]; omega
      · rw [show 1 + Lib.bitLen (x / 2) - 1 = (Lib.bitLen (x / 2) - 1) + 1 by omega, Nat.pow_succ]; omega

/-! ### the reservoir: the next bits, the first of them highest -/
def PoolOk (T : List Nat) (i pool held : Nat) : Prop := held ≤ 64 ∧ pool = valAt T i held * 2 ^ (64 - held)

theorem pool_none (T : List Nat) (i : Nat) : PoolOk T i 0 0 := ⟨by omega, by simp [valAt]⟩
theorem PoolOk.lt {T : List Nat} {i pool held : Nat} (h : PoolOk T i pool held) : pool < 2 ^ 64 := by
  obtain ⟨h1, rfl⟩ := h
  have := Nat.mul_lt_mul_of_pos_right (valAt_lt T i held) (Nat.two_pow_pos (64 - held))
  rwa [← Nat.pow_add, show held + (64 - held) = 64 by omega] at this
theorem PoolOk.take {T : List Nat} {i pool held n : Nat} (h : PoolOk T i pool held) (hn : n ≤ held) : pool / 2 ^ (64 - n) = valAt T i n := by
  obtain ⟨h1, rfl⟩ := h
  rw [show 64 - n = (64 - held) + (held - n) by omega, Nat.pow_add, ← Nat.div_div_eq_div_mul, Nat.mul_div_cancel _ (Nat.two_pow_pos _)]
  have e := valAt_div T i n (held - n)
  rwa [show n + (held - n) = held by omega] at e
theorem PoolOk.drop {T : List Nat} {i pool held n : Nat} (h : PoolOk T i pool held) (hn : n ≤ held) : PoolOk T (i + n) (pool * 2 ^ n % 2 ^ 64) (held - n) := by
  obtain ⟨h1, rfl⟩ := h
  refine ⟨by omega, ?_⟩
  have e := valAt_add T i n (held - n)
  rw [show n + (held - n) = held by omega] at e
  have l := valAt_lt T (i + n) (held - n)
  have l2 : valAt T (i + n) (held - n) * 2 ^ (64 - (held - n)) < 2 ^ 64 := by
    have := Nat.mul_lt_mul_of_pos_right l (Nat.two_pow_pos (64 - (held - n)))
    rwa [← Nat.pow_add, show held - n + (64 - (held - n)) = 64 by omega] at this
  rw [Nat.mul_assoc, ← Nat.pow_add, show 64 - held + n = 64 - (held - n) by omega, e, Nat.add_mul, Nat.mul_assoc, ← Nat.pow_add, show held - n + (64 - (held - n)) = 64 by omega, Nat.mul_comm (valAt T i n), Nat.mul_add_mod, Nat.mod_eq_of_lt l2]
theorem PoolOk.fill {T : List Nat} {i pool held j : Nat} (h : PoolOk T i pool held) (hh : held ≤ 56) (hj : i + held = 8 * j) (hx : T.getD j 0 < 256) : PoolOk T i (pool ||| T.getD j 0 * 2 ^ (56 - held)) (held + 8) := by
  obtain ⟨h1, rfl⟩ := h
  refine ⟨by omega, ?_⟩
  have l : T.getD j 0 * 2 ^ (56 - held) < 2 ^ (64 - held) := by
    have := Nat.mul_lt_mul_of_pos_right (show T.getD j 0 < 2 ^ 8 from hx) (Nat.two_pow_pos (56 - held))
    rwa [← Nat.pow_add, show 8 + (56 - held) = 64 - held by omega] at this
  rw [Nat.mul_comm (valAt T i held), ← Nat.two_pow_add_eq_or_of_lt l, valAt_add T i held 8, hj, valAt_byte T j hx, show 64 - (held + 8) = 56 - held by omega, Nat.add_mul, Nat.mul_assoc, ← Nat.pow_add, show 8 + (56 - held) = 64 - held by omega, Nat.mul_comm (2 ^ (64 - held))]
theorem PoolOk.clz {T : List Nat} {i pool held z : Nat} (h : PoolOk T i pool held) (hz : z = 64 - Lib.bitLen pool) (hl : z < held) : Zeros T i z ∧ bitAt T (i + z) = 1 := by
  have hlt := h.lt
  obtain ⟨h1, hp⟩ := h
  have h0 : pool ≠ 0 := by
    intro h0
    rw [h0, bitLen_zero] at hz
    omega
  obtain ⟨a, b, c⟩ := bitLen_bounds 64 pool hlt (by omega) h0
  have d := Lib.bitLen_le pool 64 (by omega) hlt
  have ez : Lib.bitLen pool = 64 - z := by omega
  rw [ez] at a b
  have hd : pool / 2 ^ (64 - held) = valAt T i held := by rw [hp, Nat.mul_div_cancel _ (Nat.two_pow_pos _)]
  refine first_one (n := held) z hl ?_ ?_
  · rw [← hd]
    refine Nat.div_lt_of_lt_mul ?_
    rw [← Nat.pow_add, show 64 - held + (held - z) = 64 - z by omega]
    exact a
  · rw [← hd]
    refine (Nat.le_div_iff_mul_le (Nat.two_pow_pos _)).2 ?_
    rw [← Nat.pow_add, show held - z - 1 + (64 - held) = 64 - z - 1 by omega]
    exact b
theorem PoolOk.none {T : List Nat} {i pool held z : Nat} (h : PoolOk T i pool held) (hz : z = 64 - Lib.bitLen pool) (hl : held ≤ z) : Zeros T i held := by
  have hlt := h.lt
  obtain ⟨h1, hp⟩ := h
  by_cases h0 : pool = 0
  · refine val_zeros ?_
    rw [hp] at h0
    rcases Nat.mul_eq_zero.1 h0 with h2 | h2
    · exact h2
    · have := Nat.two_pow_pos (64 - held); omega
  · obtain ⟨a, b, c⟩ := bitLen_bounds 64 pool hlt (by omega) h0
    refine val_zeros ?_
    have hd : pool / 2 ^ (64 - held) = valAt T i held := by rw [hp, Nat.mul_div_cancel _ (Nat.two_pow_pos _)]
    rw [← hd]
    have d := Lib.bitLen_le pool 64 (by omega) hlt
    exact Nat.div_eq_of_lt (Nat.lt_of_lt_of_le a (Nat.pow_le_pow_right (by omega) (by omega)))
/-- The first one of a byte. -/
theorem byte_clz {T : List Nat} {j z : Nat} (hx : T.getD j 0 < 256) (h0 : T.getD j 0 ≠ 0) (hz : z = 8 - Lib.bitLen (T.getD j 0)) : Zeros T (8 * j) z ∧ bitAt T (8 * j + z) = 1 ∧ z < 8 := by
  obtain ⟨a, b, c⟩ := bitLen_bounds 8 (T.getD j 0) hx (by omega) h0
  have d := Lib.bitLen_le (T.getD j 0) 8 (by omega) hx
  have ez : Lib.bitLen (T.getD j 0) = 8 - z := by omega
  rw [ez] at a b
  have hv := valAt_byte T j hx
  have := first_one (T := T) (i := 8 * j) (n := 8) z (by omega) (by rw [hv]; exact a) (by rw [hv]; exact b)
  exact ⟨this.1, this.2, by omega⟩
theorem byte_zero {T : List Nat} {j : Nat} (h0 : T.getD j 0 = 0) : Zeros T (8 * j) 8 := by
  refine val_zeros ?_
  rw [valAt_byte T j (by omega), h0]
end Go.Proofs.YtgkenhmbilkhdaaGreatDoor
