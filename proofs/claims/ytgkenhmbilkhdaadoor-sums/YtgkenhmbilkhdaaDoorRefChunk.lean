import Derived.Test.YtgkenhmbilkhdaaDoorRefMd5
import Derived.BigRegion
namespace Go.Proofs.YtgkenhmbilkhdaaDoor
open Go.RowKit

def sinCells : List Value := sinT.map fun (x : Nat) => Value.int .i64 (x : Int)

theorem sines_any (w : World) : Calls Tryd.prog 10 #[] w fun e w' => e = .returned (.slice (some ⟨w.heap.size, 0, none⟩) 64 64) ∧ Below w.heap.size w w' ∧ Blk w' w.heap.size sinCells.toArray 3 := by
  go_enter Tryd.func10, Tryd.ntmps10
  go_wp2
  go_ret
  exact ⟨rfl, by go_grown, Blk.new _ _ _⟩
theorem sin_at (k : Nat) (h : k < 64) : sinCells.toArray[k]? = some (.int .i64 ((mK k : Nat) : Int)) := by
  unfold sinCells mK
  rw [List.getElem?_toArray, List.getElem?_map, List.getD_eq_getElem?_getD, List.getElem?_eq_getElem (show k < sinT.length from h)]
  rfl

theorem w63 {a : Nat} (h : a < 4294967296) : a < 9223372036854775808 := by omega
theorem n63 (a : Nat) : 4294967295 - a < 9223372036854775808 := by omega
theorem i64_not (b : Nat) (hb : b < 4294967296) : bits .xor .i64 4294967295 (b : Int) = ((4294967295 - b : Nat) : Int) := by
  have h := i64_xor_nat 4294967295 b (by omega) (w63 hb)
  rw [xor_ones b hb] at h
  exact h
theorem iF_0 (i b c d : Nat) (h : i / 16 = 0) (hb : b < 4294967296) (hc : c < 4294967296) (hd : d < 4294967296) :
    bits .or .i64 (bits .and .i64 b c) (bits .and .i64 (bits .xor .i64 4294967295 b) d) = ((mF i b c d : Nat) : Int) := by
  rw [i64_not b hb, i64_and_nat b c (w63 hb) (w63 hc), i64_and_nat _ d (n63 b) (w63 hd), i64_or_nat _ _ (w63 (and32 hc)) (w63 (and32 hd))]
  unfold mF; rw [if_pos h]
theorem iF_1 (i b c d : Nat) (h : i / 16 = 1) (hb : b < 4294967296) (hc : c < 4294967296) (hd : d < 4294967296) :
    bits .or .i64 (bits .and .i64 d b) (bits .and .i64 (bits .xor .i64 4294967295 d) c) = ((mF i b c d : Nat) : Int) := by
  rw [i64_not d hd, i64_and_nat d b (w63 hd) (w63 hb), i64_and_nat _ c (n63 d) (w63 hc), i64_or_nat _ _ (w63 (and32 hb)) (w63 (and32 hc))]
  unfold mF; rw [if_neg (by omega), if_pos h, Nat.and_comm b d, Nat.and_comm c]
theorem iF_2 (i b c d : Nat) (h : i / 16 = 2) (hb : b < 4294967296) (hc : c < 4294967296) (hd : d < 4294967296) :
    bits .xor .i64 (bits .xor .i64 b c) d = ((mF i b c d : Nat) : Int) := by
  rw [i64_xor_nat b c (w63 hb) (w63 hc), i64_xor_nat _ d (w63 (xor32 hb hc)) (w63 hd)]
  unfold mF; rw [if_neg (by omega), if_neg (by omega), if_pos h]
theorem iF_3 (i b c d : Nat) (h : i / 16 = 3) (hb : b < 4294967296) (hc : c < 4294967296) (hd : d < 4294967296) :
    bits .xor .i64 c (bits .or .i64 b (bits .xor .i64 4294967295 d)) = ((mF i b c d : Nat) : Int) := by
  rw [i64_not d hd, i64_or_nat b _ (w63 hb) (n63 d), i64_xor_nat c _ (w63 hc) (w63 (or32 hb (not32_lt d)))]
  unfold mF; rw [if_neg (by omega), if_neg (by omega), if_neg (by omega)]

theorem word_int (x : Int) (g off cap : Nat) (l : List Nat) (hl : ∀ x ∈ l, x < 256) (h64 : l.length = 64) (k : Nat) (hk : k < 16) (hx : x = k) (w : World) (hrow : Bytes8 w g off l) :
    Calls Tryd.prog 21 #[.slice (some ⟨g, off, none⟩) 64 cap, .int .i64 x] w fun e w' => ∃ V : Nat, e = .returned (.int .i64 V) ∧ Below w.heap.size w w' ∧ Hid (V = wordOf l k) ∧ V < 4294967296 := by
  subst hx
  exact word_any g off cap l hl h64 k hk w hrow

theorem rot_i64 (n x : Nat) (hx : x < 4294967296) (h2 : n ≤ 31) : bits .and .i64 (bits .or .i64 ((x : Int) * 2 ^ n) ((x : Int) / 2 ^ (32 - n))) 4294967295 = ((rot n x : Nat) : Int) := by
  have hp : 2 ^ n ≤ 2 ^ 31 := Nat.pow_le_pow_right (by omega) h2
  have hm : x * 2 ^ n < 9223372036854775808 := by
    have := Nat.mul_le_mul (show x ≤ 4294967295 by omega) hp
    omega
  have hd : x / 2 ^ (32 - n) < 4294967296 := Nat.lt_of_le_of_lt (Nat.div_le_self _ _) hx
  have h := i64_or_nat (x * 2 ^ n) (x / 2 ^ (32 - n)) hm (w63 hd)
  rw [Int.natCast_mul, Int.natCast_pow, Int.natCast_ediv, Int.natCast_pow] at h
  rw [show ((2 : Nat) : Int) = 2 from rfl] at h
  have hor : (x * 2 ^ n ||| x / 2 ^ (32 - n)) < 2 ^ 63 := Nat.or_lt_two_pow (n := 63) hm (w63 hd)
  rw [h, i64_and_m32 _ hor]
  unfold rot
  rw [show (4294967296 : Nat) = 2 ^ 32 from rfl, Nat.or_mod_two_pow, Nat.mod_eq_of_lt (a := x / 2 ^ (32 - n)) hd]

theorem fin_b (rb Y t : Nat) (hb : rb < 4294967296) (hY : Y < 4294967296) (ht : t ≤ 31) :
    bits .and .i64 (wrap64 ((rb : Int) + bits .and .i64 (bits .or .i64 (wrap64 ((Y : Int) * 2 ^ t)) ((Y : Int) / 2 ^ (32 - t))) 4294967295)) 4294967295 = (((rb + rot t Y) % 4294967296 : Nat) : Int) := by
  have hp : 2 ^ t ≤ 2 ^ 31 := Nat.pow_le_pow_right (by omega) ht
  have hm : Y * 2 ^ t < 9223372036854775808 := by
    have := Nat.mul_le_mul (show Y ≤ 4294967295 by omega) hp
    omega
  have hw : wrap64 ((Y : Int) * 2 ^ t) = (Y : Int) * 2 ^ t := by
    have h : ((Y : Int) * 2 ^ t) = ((Y * 2 ^ t : Nat) : Int) := by rw [Int.natCast_mul, Int.natCast_pow]; rfl
    rw [h]
    generalize Y * 2 ^ t = z at hm
    simp only [wrap64]
    omega
  have hr := rot_lt t Y hY
  rw [hw, rot_i64 t Y hY ht]
  have hw2 : wrap64 ((rb : Int) + ((rot t Y : Nat) : Int)) = ((rb + rot t Y : Nat) : Int) := by
    generalize rot t Y = z at hr
    simp only [wrap64]
    omega
  rw [hw2, i64_and_m32 _ (by omega)]

def quadCells (q : Quad) : Array Value := #[.int .i64 (q.a : Int), .int .i64 (q.b : Int), .int .i64 (q.c : Int), .int .i64 (q.d : Int)]

set_option maxHeartbeats 4000000 in
set_option maxRecDepth 10000 in
theorem chunk_core (X : Quad) (q : Quad) (l : List Nat) (HX : Hid (X = mixQ (wordOf l) q)) (hq : q.ok) (h64 : l.length = 64) (hl : ∀ x ∈ l, x < 256) (ph g off cap ps : Nat) (w : World) (hg : g < w.heap.size) (hB : Blk w ph (quadCells q) 3) (hS : Blk w ps sinCells.toArray 3) (hrow : Bytes8 w g off l) :
    Calls Tryd.prog 11 #[.slice (some ⟨ph, 0, none⟩) 4 4, .slice (some ⟨g, off, none⟩) 64 cap, .slice (some ⟨ps, 0, none⟩) 64 64] w fun e w' => ∃ b, e = .returned (.slice (some ⟨b, 0, none⟩) 4 4) ∧ w.heap.size ≤ b ∧ Below w.heap.size w w' ∧ Blk w' b (quadCells X) 3 := by
  obtain ⟨qa, qb, qc, qd⟩ := q
  obtain ⟨ha2, hb2, hc2, hd2⟩ := hq
  simp only at ha2 hb2 hc2 hd2
  have c0 : w.cell? ⟨ph, 0, none⟩ = some (.int .i64 (qa : Int)) := hB.cell 0
  have c1 : w.cell? ⟨ph, 1, none⟩ = some (.int .i64 (qb : Int)) := hB.cell 1
  have c2 : w.cell? ⟨ph, 2, none⟩ = some (.int .i64 (qc : Int)) := hB.cell 2
  have c3 : w.cell? ⟨ph, 3, none⟩ = some (.int .i64 (qd : Int)) := hB.cell 3
  have hph := hB.lt
  have hps := hS.lt
  have HS := hid hS
  have HB := hid hB
  have HL := hid hl
  have HR := hid hrow
  clear hS hB hl hrow
  go_enter Tryd.func11, Tryd.ntmps11
  go_wp2
  go_loopw [7, 8, 9, 10, 11] (fun va vb vc vd i wr => ∃ (k : Nat) (r : Quad), k ≤ 64 ∧ r.ok ∧ Hid (r = rnds (wordOf l) k ⟨qa, qb, qc, qd⟩) ∧ i = .int .i64 k ∧ va = .int .i64 r.a ∧ vb = .int .i64 r.b ∧ vc = .int .i64 r.c ∧ vd = .int .i64 r.d ∧ Below w.heap.size w wr) (fun _ _ _ _ i _ => 64 - (intOf i).toNat)
  case atStart => exact ⟨0, ⟨qa, qb, qc, qd⟩, by omega, ⟨ha2, hb2, hc2, hd2⟩, rfl, rfl, rfl, rfl, rfl, rfl, Below.refl _ _⟩
  case round =>
    obtain ⟨k, r, hk, hr, HRK, rfl, rfl, rfl, rfl, rfl, hb⟩ := hrel
    clear c0 c1 c2 c3
    obtain ⟨ra, rb, rc, rd⟩ := r
    obtain ⟨ha1, hb1, hc1, hd1⟩ := hr
    simp only at ha1 hb1 hc1 hd1
    by_cases hlt : k < 64
    · have hlt' : (k : Int) < 64 := by omega
      have HRr : Hid (Bytes8 wr g off l) := HR.out.below hb hg
      obtain ⟨F, HF, hF⟩ : ∃ F : Nat, Hid (F = mF k rb rc rd) ∧ F < 4294967296 := ⟨_, rfl, mF_lt k rb rc rd hb1 hc1 hd1⟩
      rcases (show k / 16 = 0 ∨ k / 16 = 1 ∨ k / 16 = 2 ∨ k / 16 = 3 by omega) with hq | hq | hq | hq
      case' inl =>
        have e1 : (k : Int) / 16 = 0 := by omega
        have eF := iF_0 k rb rc rd hq hb1 hc1 hd1
        have HG := hid (mG_0 k hq)
      case' inr.inl =>
        have e1 : (k : Int) / 16 = 1 := by omega
        have eF := iF_1 k rb rc rd hq hb1 hc1 hd1
        have HG := hid (mG_1 k hq)
      case' inr.inr.inl =>
        have e1 : (k : Int) / 16 = 2 := by omega
        have eF := iF_2 k rb rc rd hq hb1 hc1 hd1
        have HG := hid (mG_2 k hq)
      case' inr.inr.inr =>
        have e1 : (k : Int) / 16 = 3 := by omega
        have eF := iF_3 k rb rc rd hq hb1 hc1 hd1
        have HG := hid (mG_3 k hq)
      all_goals
        rw [← HF.out] at eF
        clear hq
        go_wp2_with fail
        refine (word_int _ g off cap l HL.out h64 (mG k) (mG_lt k hlt) (by have := HG.out; first | omega | (rw [Int.tmod_eq_emod_of_nonneg (by omega)]; omega)) _ HRr.out).mono ?_
        rintro e w2 ⟨V, rfl, hb2', HV, hV⟩
        obtain ⟨K, s1, hK, HK⟩ : ∃ K : Nat, w2.cell? ⟨ps, k, none⟩ = some (.int .i64 K) ∧ K < 4294967296 ∧ Hid (K = mK k) := ⟨_, (((HS.out.below hb hps).below hb2' (Nat.lt_of_lt_of_le hps hb.size)).cell k).trans (sin_at k hlt), mK_lt k hlt, rfl⟩
        obtain ⟨Y, eY, hY, HY⟩ : ∃ Y : Nat, bits .and .i64 ((F : Int) + ra + K + V) 4294967295 = (Y : Int) ∧ Y < 4294967296 ∧ Hid (Y = (F + (ra + K + V)) % 4294967296) :=
          ⟨(F + ra + K + V) % 4294967296, i64_and_m32 (F + ra + K + V) (by omega), Nat.mod_lt _ (by omega), by show _ = _; rw [Nat.add_assoc, Nat.add_assoc, Nat.add_assoc]⟩
        go_wp2_with fail
        refine (shift_any k hlt _).mono ?_
        rintro e w3 ⟨t, rfl, hb3, HT, ht1, ht2⟩
        go_wp2
        go_quiet (fail)
        go_wp2
        go_roundw
        case rel =>
          refine ⟨k + 1, ⟨rd, (rb + rot t Y) % 4294967296, rb, rc⟩, by omega, ⟨hd1, Nat.mod_lt _ (by omega), hb1, hc1⟩, ?_, by go_num, rfl, congrArg (Value.int .i64) (fin_b rb Y t hb1 hY ht2), rfl, rfl, below_drewN ((hb.trans (hb2'.mono hb.size)).trans (hb3.mono (Nat.le_trans hb.size hb2'.size))) _⟩
          show _ = rnd (wordOf l) k (rnds (wordOf l) k _)
          rw [← HRK.out]
          unfold rnd mf
          simp only
          rw [← HF.out, ← HK.out, ← HV.out, ← HT.out, ← HY.out]
        case measure => simp [intOf]; omega
    · obtain rfl : k = 64 := by omega
      have e1 := HB.out.below hb hph
      have c0 : wr.cell? ⟨ph, 0, none⟩ = some (.int .i64 (qa : Int)) := e1.cell 0
      have c1 : wr.cell? ⟨ph, 1, none⟩ = some (.int .i64 (qb : Int)) := e1.cell 1
      have c2 : wr.cell? ⟨ph, 2, none⟩ = some (.int .i64 (qc : Int)) := e1.cell 2
      have c3 : wr.cell? ⟨ph, 3, none⟩ = some (.int .i64 (qd : Int)) := e1.cell 3
      have v0 : bits .and .i64 ((qa : Int) + ra) 4294967295 = (((qa + ra) % 4294967296 : Nat) : Int) := i64_and_m32 (qa + ra) (by omega)
      have v1 : bits .and .i64 ((qb : Int) + rb) 4294967295 = (((qb + rb) % 4294967296 : Nat) : Int) := i64_and_m32 (qb + rb) (by omega)
      have v2 : bits .and .i64 ((qc : Int) + rc) 4294967295 = (((qc + rc) % 4294967296 : Nat) : Int) := i64_and_m32 (qc + rc) (by omega)
      have v3 : bits .and .i64 ((qd : Int) + rd) 4294967295 = (((qd + rd) % 4294967296 : Nat) : Int) := i64_and_m32 (qd + rd) (by omega)
      have hX : Hid (X = ⟨(qa + ra) % 4294967296, (qb + rb) % 4294967296, (qc + rc) % 4294967296, (qd + rd) % 4294967296⟩) := by
        show X = _
        rw [HX.out]
        show quadAdd _ (rnds (wordOf l) 64 _) = _
        rw [← HRK.out]
        rfl
      generalize (qa + ra) % 4294967296 = xa at v0 hX
      generalize (qb + rb) % 4294967296 = xb at v1 hX
      generalize (qc + rc) % 4294967296 = xc at v2 hX
      generalize (qd + rd) % 4294967296 = xd at v3 hX
      clear e1
      go_wp2
      go_region
      go_wp2
      go_ret
      refine ⟨wr.heap.size, rfl, hb.size, ?_, ?_⟩
      · exact below_drewN (hb.trans (by go_grown; exact hb.size)) 1
      · rw [hX.out]
        exact (Blk.new _ _ _).drew

theorem chunk_any (q : Quad) (l : List Nat) (hq : q.ok) (h64 : l.length = 64) (hl : ∀ x ∈ l, x < 256) (ph g off cap ps : Nat) (w : World) (hg : g < w.heap.size) (hB : Blk w ph (quadCells q) 3) (hS : Blk w ps sinCells.toArray 3) (hrow : Bytes8 w g off l) :
    Calls Tryd.prog 11 #[.slice (some ⟨ph, 0, none⟩) 4 4, .slice (some ⟨g, off, none⟩) 64 cap, .slice (some ⟨ps, 0, none⟩) 64 64] w fun e w' => ∃ b, e = .returned (.slice (some ⟨b, 0, none⟩) 4 4) ∧ w.heap.size ≤ b ∧ Below w.heap.size w w' ∧ Blk w' b (quadCells (mixQ (wordOf l) q)) 3 :=
  chunk_core _ q l rfl hq h64 hl ph g off cap ps w hg hB hS hrow
end Go.Proofs.YtgkenhmbilkhdaaDoor
