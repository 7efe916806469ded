import Derived.Test.YtgkenhmbilkhdaaDoorRefChunk
import Derived.Test.YtgkenhmbilkhdaaDoorPush
namespace Go.Proofs.YtgkenhmbilkhdaaDoor
open Go.RowKit

theorem Tryd.infoU8 : (Tryd.prog.info? 5).map (fun i => (i.zero, i.size, i.bytes)) = some (some (.int .u8 0), 1, 1) := by kernel_rfl

theorem padded_lt (l : List Nat) (h : ∀ x ∈ l, x < 256) : ∀ x ∈ padded l, x < 256 := by
  intro x hx
  unfold padded pad1 at hx
  simp only [List.mem_append, List.mem_singleton, List.mem_map] at hx
  rcases hx with ((hx | rfl) | hx) | ⟨k, _, rfl⟩
  · exact h x hx
  · decide
  · rw [List.eq_of_mem_replicate hx]; decide
  · exact Nat.mod_lt _ (by decide)
theorem piece_len {PL : List Nat} {M j : Nat} (h : PL.length = 64 * M) (hj : j < M) : ((PL.drop (64 * j)).take 64).length = 64 := by
  rw [List.length_take, List.length_drop]; omega
theorem piece_lt {PL : List Nat} (h : ∀ x ∈ PL, x < 256) (j : Nat) : ∀ x ∈ (PL.drop j).take 64, x < 256 := fun x hx => h x (List.mem_of_mem_drop (List.mem_of_mem_take hx))
theorem bytes_piece {w : World} {g : Nat} {PL : List Nat} (h : Bytes8 w g 0 PL) (j : Nat) : Bytes8 w g j ((PL.drop j).take 64) := by
  intro i hi
  rw [List.length_take, List.length_drop] at hi
  have h1 := h (j + i) (by omega)
  rw [Nat.zero_add] at h1
  rw [h1, List.getD_eq_getElem?_getD, List.getD_eq_getElem?_getD, List.getElem?_take, if_pos (by omega), List.getElem?_drop]
theorem make16 (w : World) : (Instr.makeSlice 38 (.int .i64 16) (.int .i64 16)).run Tryd.prog w = .ok (.slice (some ⟨w.heap.size, 0, none⟩) 16 16) (w.alloc (.cells #[.int .u8 0, .int .u8 0, .int .u8 0, .int .u8 0, .int .u8 0, .int .u8 0, .int .u8 0, .int .u8 0, .int .u8 0, .int .u8 0, .int .u8 0, .int .u8 0, .int .u8 0, .int .u8 0, .int .u8 0, .int .u8 0] 5)) := by kernel_rfl
theorem digI_at (qa qb qc qd k : Nat) (h : k < 4) : (quadCells ⟨qa, qb, qc, qd⟩)[k]? = some (.int .i64 ((digW ⟨qa, qb, qc, qd⟩ k : Nat) : Int)) := by
  rcases (show k = 0 ∨ k = 1 ∨ k = 2 ∨ k = 3 by omega) with rfl | rfl | rfl | rfl <;> rfl
theorem lenB_cast' (n k : Nat) : 8 * (n : Int) / 2 ^ (8 * k) % 256 = ((lenB n k : Nat) : Int) := by
  rw [Int.mul_comm]
  exact lenB_cast n k

set_option maxHeartbeats 4000000 in
set_option maxRecDepth 10000 in
theorem refMd5_core (X : ByteArray) (s : ByteArray) (hs : s.size ≤ 1048576) (w : World) (HX : Hid (X = digest (md (padded (bytesOf s)) ((padded (bytesOf s)).length / 64)))) :
    Calls Tryd.prog 7 #[.string s] w fun e w' => e = .returned (.string X) ∧ Below w.heap.size w w' := by
  have hls := bytesOf_len s
  have HLB := hid (bytesOf_lt s)
  go_enter Tryd.func7, Tryd.ntmps7
  go_wp2_with (first
    | (refine wpList_bytes rfl (.tmp 10) 9 38 5 rfl Tryd.underlying9 Tryd.underlying38 Tryd.underlying5 s rfl w.heap.size (Nat.le_refl _) ?_; intro cap1 W1 hO1 hb1)
    | (at_builtin; refine wpList_push rfl (.tmp 12) (.tmp 13) 38 5 5 rfl Tryd.underlying38 Tryd.infoU8 w.heap.size w.heap.size cap1 (bytesOf s) s.size hls.symm 128 128 rfl hO1 (by omega) rfl rfl ?_; intro g2 cap2 W2 hO2 hb2))
  have hb12 : Below w.heap.size w W2 := hb1.trans hb2
  have HLS := hid hls
  clear hls hb1 hb2 hO1
  go_loopg [3] (padZ s.size) (fun gk v wr => ∃ z g cap : Nat, z + gk = padZ s.size ∧ v = .slice (some ⟨g, 0, none⟩) (s.size + 1 + z) cap ∧ OwnB wr w.heap.size g cap (pad1 (bytesOf s) ++ List.replicate z 0) ∧ Below w.heap.size w wr)
  case atStart => exact ⟨0, g2, cap2, by omega, rfl, by simpa [pad1] using hO2, hb12⟩
  case round =>
    obtain ⟨z, g, cap, hz, rfl, hO, hb⟩ := hrel
    clear hO2 hb12
    have hzb : padZ s.size < 64 := Nat.mod_lt _ (by omega)
    have hlz : (pad1 (bytesOf s) ++ List.replicate z 0).length = s.size + 1 + z := by
      rw [List.length_append, List.length_replicate, pad1, List.length_append, HLS.out, List.length_singleton]
    have HL := hid hlz
    clear hlz
    cases gk with
    | succ gk =>
      have ht2 : ((s.size + 1 + z : Nat) : Int).tmod 64 = (((s.size + 1 + z) % 64 : Nat) : Int) := by rw [Int.tmod_eq_emod_of_nonneg (by omega)]; omega
      have hne : (((s.size + 1 + z) % 64 : Nat) : Int) ≠ 56 := by unfold padZ at hz; omega
      have hneb : ((((s.size + 1 + z) % 64 : Nat) : Int) != 56) = true := by simpa using hne
      have hN : s.size + 1 + z + 1 ≤ 1099511627776 := by omega
      generalize (s.size + 1 + z) % 64 = r at ht2 hne hneb
      obtain ⟨N, HN⟩ : ∃ N, Hid (N = s.size + 1 + z) := ⟨_, rfl⟩
      rw [← HN.out] at ht2 hN
      rw [← HN.out]
      have HL' : Hid (N = (pad1 (bytesOf s) ++ List.replicate z 0).length) := HN.out.trans HL.out.symm
      go_wp2_with (at_builtin; refine wpList_push rfl (.tmp 19) (.tmp 20) 38 5 5 rfl Tryd.underlying38 Tryd.infoU8 w.heap.size g cap _ N HL'.out 0 0 rfl hO (by rw [← HL'.out]; omega) rfl rfl ?_; intro g3 cap3 W3 hO3 hb3)
      go_roundg gk
      case rel => exact ⟨z + 1, g3, cap3, by omega, by rw [HN.out]; rfl, by rw [List.replicate_succ', ← List.append_assoc]; exact hO3, hb.trans hb3⟩
      case measure => omega
    | zero =>
      have ht2 : ((s.size + 1 + z : Nat) : Int).tmod 64 = 56 := by
        have := hz
        unfold padZ at this
        rw [Int.tmod_eq_emod_of_nonneg (by omega)]; omega
      have hN : s.size + 1 + z + 8 ≤ 1099511627776 := by omega
      have HZ : Hid (z = padZ s.size) := by show _ = _; omega
      obtain ⟨N, HN⟩ : ∃ N, Hid (N = s.size + 1 + z) := ⟨_, rfl⟩
      rw [← HN.out] at ht2 hN
      rw [← HN.out]
      obtain ⟨P1, HP1⟩ : ∃ P1 : List Nat, Hid (P1 = pad1 (bytesOf s) ++ List.replicate z 0) := ⟨_, hid rfl⟩
      rw [← HP1.out] at hO
      have HL' : Hid (N = P1.length) := by show _ = _; rw [HP1.out, HL.out]; exact HN.out
      clear hz
      go_wp2
      go_loopw [3, 4] (fun v i wx => ∃ k g cap : Nat, k ≤ 8 ∧ i = .int .i64 k ∧ v = .slice (some ⟨g, 0, none⟩) (N + k) cap ∧ OwnB wx w.heap.size g cap (P1 ++ (List.range k).map (lenB s.size)) ∧ Below w.heap.size w wx) (fun _ i _ => 8 - (intOf i).toNat)
      case atStart => exact ⟨0, g, cap, by omega, rfl, rfl, by simpa using hO, hb⟩
      case round =>
        obtain ⟨k, g4, cap4, hk8, rfl, rfl, hO4, hb4⟩ := hrel
        clear hO hb
        have HLX : Hid (N + k = (P1 ++ (List.range k).map (lenB s.size)).length) := by show _ = _; rw [List.length_append, ← HL'.out, List.length_map, List.length_range]
        by_cases hlt : k < 8
        · have hlt' : (k : Int) < 8 := by omega
          go_wp2_with (at_builtin; refine wpList_push rfl (.tmp 26) (.tmp 34) 38 5 5 rfl Tryd.underlying38 Tryd.infoU8 w.heap.size g4 cap4 _ (N + k) HLX.out (lenB s.size k) _ (lenB_cast' _ _) hO4 (by rw [← HLX.out]; omega) rfl rfl ?_; intro g3 cap3 W3 hO3 hb3)
          go_roundw
          case rel => exact ⟨k + 1, g3, cap3, by omega, by go_num, rfl, by rw [List.range_succ, List.map_append, ← List.append_assoc]; exact hO3, hb4.trans hb3⟩
          case measure => simp [intOf]; omega
        · obtain rfl : k = 8 := by omega
          obtain ⟨PL, HPL⟩ : ∃ PL : List Nat, Hid (PL = P1 ++ (List.range 8).map (lenB s.size)) := ⟨_, hid rfl⟩
          rw [← HPL.out] at hO4 HLX
          have HPP : Hid (PL = padded (bytesOf s)) := by show _ = _; rw [HPL.out, HP1.out, HZ.out]; unfold padded; rw [HLS.out]
          have HPB : Hid (∀ x ∈ PL, x < 256) := by show ∀ x ∈ PL, x < 256; rw [HPP.out]; exact padded_lt _ HLB.out
          obtain ⟨M, hM⟩ : ∃ M, N + 8 = 64 * M := ⟨(N + 8) / 64, by have h := padded_len (bytesOf s); rw [← HPP.out, ← HLX.out] at h; omega⟩
          have hcap := hO4.fits
          rw [← HLX.out] at hcap
          have hg4 := hO4.lt
          go_wp2_with fail
          refine (sines_any _).mono ?_
          rintro e W5 ⟨rfl, hb5, hS5⟩
          have hBh := (Blk.new wr #[Value.int .i64 1732584193, .int .i64 4023233417, .int .i64 2562383102, .int .i64 271733878] 3).below hb5 (Blk.new _ _ _).lt
          have hb45 : Below wr.heap.size wr W5 := ((Below.refl _ _).alloc (Nat.le_refl _) _).trans (hb5.mono (by simp))
          have hO5 := hO4.below hb45 hg4
          have hh5 : wr.heap.size < W5.heap.size := hBh.lt
          have hs5 := hS5.lt
          generalize hps : (wr.alloc (.cells #[Value.int .i64 1732584193, .int .i64 4023233417, .int .i64 2562383102, .int .i64 271733878] 3)).heap.size = ps at hS5 hs5
          clear hb5 hO4
          go_wp2
          have hbw5 : Below w.heap.size w W5 := hb4.trans (hb45.mono hb4.size)
          have HO5 := hid hO5
          have HS5 := hid hS5
          have hg5 : g4 < W5.heap.size := hO5.lt
          have HMM : Hid (PL.length = 64 * M) := by show _ = _; rw [← HLX.out]; exact hM
          clear hO5 hS5 hb45 hb4 hps
          have hMb : 64 * M ≤ 1099511627776 := by omega
          go_loopw [5, 7] (fun vh vi wx => ∃ j b : Nat, j ≤ M ∧ vi = .int .i64 ((64 * j : Nat) : Int) ∧ vh = .slice (some ⟨b, 0, none⟩) 4 4 ∧ Blk wx b (quadCells (md PL j)) 3 ∧ Below W5.heap.size W5 wx) (fun _ i _ => 64 * M - (intOf i).toNat)
          case atStart => exact ⟨0, wr.heap.size, by omega, rfl, rfl, hBh, Below.refl _ _⟩
          case round =>
            rename World => W6
            obtain ⟨j, b, hj, rfl, rfl, hBj, hbj⟩ := hrel
            clear hBh
            by_cases hjM : j < M
            · have HB6 := hid hBj
              have h64j : 64 * j + 64 ≤ 64 * M := by omega
              have h64c : 64 * j + 64 ≤ cap4 := by omega
              have h64i : (64 * (j : Int)) < 64 * (M : Int) := by omega
              clear hBj
              go_wp2_with fail
              refine (chunk_any (md PL j) ((PL.drop (64 * j)).take 64) (md_ok _ _) (piece_len HMM.out hjM) (piece_lt HPB.out _) b g4 (64 * j) (cap4 - 64 * j) ps _ (Nat.lt_of_lt_of_le hg5 hbj.size) HB6.out (HS5.out.below hbj hs5) (bytes_piece (HO5.out.row.below hbj hg5) _)).mono ?_
              rintro e W7 ⟨b7, rfl, hb7, hb7', hB7⟩
              go_wp2
              go_roundw
              case rel => exact ⟨j + 1, b7, by omega, by go_num, rfl, hB7, hbj.trans (hb7'.mono hbj.size)⟩
              case measure => simp [intOf]; omega
            · obtain rfl : j = M := by omega
              obtain ⟨q, HQ⟩ : ∃ q : Quad, Hid (q = md PL j) := ⟨_, hid rfl⟩
              have hq : q.ok := by rw [HQ.out]; exact md_ok _ _
              rw [← HQ.out] at hBj
              obtain ⟨qa, qb, qc, qd⟩ := q
              obtain ⟨ha, hb, hc, hd⟩ := hq
              simp only at ha hb hc hd
              have hbl := hBj.lt
              have HB6 := hid hBj
              clear hBj
              have hmk := make16 W6
              go_wp2
              go_loopw [9] (fun i wx => ∃ k : Nat, k ≤ 16 ∧ i = .int .i64 k ∧ Below W6.heap.size W6 wx ∧ Blk wx W6.heap.size (outCells ⟨qa, qb, qc, qd⟩ k) 5) (fun i _ => 16 - (intOf i).toNat)
              case atStart => exact ⟨0, by omega, rfl, by go_grown, by rw [outCells_zero]; exact Blk.new _ _ _⟩
              case round =>
                obtain ⟨k, hk16, rfl, hbx, hBx⟩ := hrel
                clear hmk
                by_cases hlt : k < 16
                · have hlt' : (k : Int) < 16 := by omega
                  obtain ⟨m, i, hk, hm, hi⟩ : ∃ m i : Nat, k = 4 * m + i ∧ m < 4 ∧ i < 4 := ⟨k / 4, k % 4, by omega, by omega, by omega⟩
                  have hkm : (k : Int) / 4 = m := by omega
                  have hki : (k : Int) % 4 = i := by omega
                  have hi' : (i : Int) < 4 := by omega
                  have hm' : (m : Int) < 4 := by omega
                  have cm : _ = some (Value.int .i64 ((digW ⟨qa, qb, qc, qd⟩ m : Nat) : Int)) := ((HB6.out.below hbx hbl).cell m).trans (digI_at qa qb qc qd m hm)
                  have hv := digW_lt qa qb qc qd m ha hb hc hd
                  have HD : Hid (dig ⟨qa, qb, qc, qd⟩ k = digW ⟨qa, qb, qc, qd⟩ m / 2 ^ (8 * i) % 256) := by show _ = _; rw [hk]; exact dig_at _ m i hi
                  generalize digW ⟨qa, qb, qc, qd⟩ m = v at cm hv HD
                  have cx := hBx.cell k
                  rw [outCells_get _ _ _ hlt] at cx
                  have fx := hBx.free k
                  have hBn := hBx.set k (.int .u8 (dig ⟨qa, qb, qc, qd⟩ k : Nat))
                  rw [outCells_next _ _ hlt, HD.out, ← byte_cast] at hBn
                  have HBN := hid hBn
                  clear hBn hk
                  go_wp2
                  go_roundw
                  case rel => exact ⟨k + 1, by omega, by go_num, hbx.setCell (p := ⟨_, k, none⟩) (Nat.le_refl _) _, HBN.out⟩
                  case measure => simp [intOf]; omega
                · obtain rfl : k = 16 := by omega
                  have hcv := run_convert_bytes_arg (P := Tryd.prog) wr 38 5 Tryd.underlying38 Tryd.underlying5 W6.heap.size 0 16 16 ((List.range 16).map fun j => (dig ⟨qa, qb, qc, qd⟩ j : Int)) (by simp) (by
                    intro i hi
                    rw [Nat.zero_add, hBx.cell i, outCells_get _ _ _ hi, if_pos (by omega)]
                    simp [hi]) 9 Tryd.underlying9
                  have HS : Hid (X = strOfNums ((List.range 16).map fun j => (dig ⟨qa, qb, qc, qd⟩ j : Int))) := by
                    show X = _
                    rw [HX.out, ← HPP.out, HMM.out, show 64 * j / 64 = j by omega, ← HQ.out]
                    rfl
                  generalize strOfNums ((List.range 16).map fun j => (dig ⟨qa, qb, qc, qd⟩ j : Int)) = S at hcv HS
                  go_wp2
                  go_ret
                  exact ⟨by rw [HS.out]; rfl, (hbw5.trans (hbj.mono hbw5.size)).trans (hbx.mono (Nat.le_trans hbw5.size hbj.size))⟩

theorem refMd5 (s : ByteArray) (hs : s.size ≤ 1048576) (w : World) :
    Calls Tryd.prog 7 #[.string s] w fun e w' => e = .returned (.string (digest (md (padded (bytesOf s)) ((padded (bytesOf s)).length / 64)))) ∧ Below w.heap.size w w' :=
  refMd5_core _ s hs w (hid rfl)
end Go.Proofs.YtgkenhmbilkhdaaDoor
