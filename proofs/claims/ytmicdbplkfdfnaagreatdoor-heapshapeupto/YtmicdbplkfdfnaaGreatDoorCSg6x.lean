/- The library's sort at uint32: xorshift, nextPowerOfTwo, breakPatterns. -/
import Derived.Test.YtmicdbplkfdfnaaGreatDoorCSg1x
import Derived.Test.YtmicdbplkfdfnaaGreatDoorCHuS
import Derived.Sort.WalkC4
set_option linter.unusedVariables false
namespace Go.Proofs.YtmicdbplkfdfnaaGreatDoor
open Go.RowKit Go.Sort

set_option maxRecDepth 100000 in
set_option maxHeartbeats 2000000 in
theorem next32 (rb X : Nat) (hX : X < 18446744073709551616) (w : World) (hc : w.cell? ⟨rb, 0, none⟩ = some (.int .u64 X)) (hf : w.frozen? ⟨rb, 0, none⟩ = false) :
    Calls Tryz.prog 154 #[.pointer (some ⟨rb, 0, none⟩)] w fun e w' => e = .returned (.int .u64 (xorNextN X : Nat)) ∧ w' = (w.setCell ⟨rb, 0, none⟩ (.int .u64 (xorNextN X : Nat))).drewN 3 := by
  obtain ⟨A, hA⟩ : ∃ A : Nat, A = X ^^^ (X * 8192 % 18446744073709551616) := ⟨_, rfl⟩
  obtain ⟨B, hB⟩ : ∃ B : Nat, B = A ^^^ (A / 128) := ⟨_, rfl⟩
  obtain ⟨C, hC⟩ : ∃ C : Nat, C = B ^^^ (B * 131072 % 18446744073709551616) := ⟨_, rfl⟩
  have lA : A < 18446744073709551616 := by rw [hA]; exact Nat.xor_lt_two_pow (n := 64) (by omega) (by omega)
  have lB : B < 18446744073709551616 := by rw [hB]; exact Nat.xor_lt_two_pow (n := 64) (by omega) (by omega)
  have m1 : ((X : Int) * 8192 % 18446744073709551616) = ((X * 8192 % 18446744073709551616 : Nat) : Int) := by omega
  have m2 : ((B : Int) * 131072 % 18446744073709551616) = ((B * 131072 % 18446744073709551616 : Nat) : Int) := by omega
  have m3 : ((A : Int) / 128) = ((A / 128 : Nat) : Int) := by omega
  have e1 : bits .xor .u64 (X : Int) (IntKind.u64.wrap ((X : Int) * 8192)) = (A : Int) := by rw [IntKind.wrap_u64, m1, bits_xor_u64_nat _ _ hX (by omega), hA]
  have e2 : bits .xor .u64 (A : Int) ((A : Int) / 128) = (B : Int) := by rw [m3, bits_xor_u64_nat _ _ lA (by omega), hB]
  have e3 : bits .xor .u64 (B : Int) (IntKind.u64.wrap ((B : Int) * 131072)) = (C : Int) := by rw [IntKind.wrap_u64, m2, bits_xor_u64_nat _ _ lB (by omega), hC]
  have hv : xorNextN X = C := by unfold xorNextN; dsimp only; rw [← hA, ← hB, ← hC]
  rw [hv]
  clear hA hB hC hv m1 m2 m3
  have twice : ∀ v v', (w.setCell ⟨rb, 0, none⟩ v).setCell ⟨rb, 0, none⟩ v' = w.setCell ⟨rb, 0, none⟩ v' := setCell_setCell w rb 0
  go_enter Tryz.func154, Tryz.ntmps154
  go_wp2
  go_region
  all_goals go_wp2
  all_goals go_region
  all_goals go_wp2
  all_goals go_region
  all_goals go_wp2
  go_ret
  exact ⟨rfl, rfl⟩
theorem power32 (n : Nat) (hn : n ≤ 1000000) (w : World) : Calls Tryz.prog 153 #[.int .i64 n] w fun e w' => e = .returned (.int .u64 ((1 <<< bitsLen n : Nat) : Int)) ∧ w' = w := by
  have hl : ∀ w, Calls Tryz.prog 99 #[.int .u64 (n : Int)] w fun e w' => e = .returned (.int .i64 (bitsLen n : Nat)) ∧ w' = w := fun w => by
    have h := Tryz.bits_Len (n : Int) w (by omega) (by omega)
    rwa [Int.toNat_natCast, bitLen_eq _ (by omega)] at h
  have hk : bitsLen n ≤ 62 := (bitsLen_le_iff n 62).2 (by omega)
  have hp := wrap_two_pow (bitsLen n) hk
  go_enter Tryz.func153, Tryz.ntmps153
  go_wp2_with (first | (go_at_call 99; refine (hl _).mono ?_; rintro e w' ⟨rfl, rfl⟩))
  go_ret
  exact ⟨rfl, rfl⟩
/-- The world with a row and a generator behind it. -/
def wR (w : World) (n blk off : Nat) (d : Array Int) (X : Nat) : World := grow (putRow U32 (Sort.ahead w n) blk off d) #[Obj.cells #[.int .u64 (X : Int)] 249]
theorem wR_facts {w : World} {blk off : Nat} {d d0 : Array Int} (hH : Holds U32 w blk off d0) (hblk : blk < w.heap.size) (hs : d.size = d0.size) (n X : Nat) :
    (∀ t, t < d0.size → (wR w n blk off d X).cell? ⟨blk, off + t, none⟩ = some (.int .u32 d[t]!)) ∧ (∀ t, t < d0.size → (wR w n blk off d X).frozen? ⟨blk, off + t, none⟩ = false) ∧
    (wR w n blk off d X).cell? ⟨w.heap.size, 0, none⟩ = some (.int .u64 (X : Int)) ∧ (wR w n blk off d X).frozen? ⟨w.heap.size, 0, none⟩ = false := by
  have hz : (putRow U32 (Sort.ahead w n) blk off d).heap.size = w.heap.size := by simp
  have hh := holds_grow U32 _ #[Obj.cells #[.int .u64 (X : Int)] 249] blk off d (by rw [hz]; exact hblk) (holds_putRow U32 _ blk off d0 d (holds_ahead U32 w n blk off d0 hH) hs)
  refine ⟨fun t ht => (hh t (by omega)).1, fun t ht => (hh t (by omega)).2, ?_, ?_⟩
  · rw [← hz]; exact grow_one_cell _ _ _
  · rw [← hz]; exact grow_one_frozen _ _ _
set_option maxRecDepth 100000 in
set_option maxHeartbeats 2000000 in
theorem break32 (blk off cap a b : Nat) (d : Array Int) (w : World) (hH : Holds U32 w blk off d) (hblk : blk < w.heap.size) (h8 : 8 ≤ b - a) (hb : b ≤ d.size) (hsz : d.size ≤ 1000000) :
    Calls Tryz.prog 129 #[.slice (some ⟨blk, off, none⟩) d.size cap, .int .i64 a, .int .i64 b] w fun e w' => e = .returned (.tuple #[]) ∧ At U32 w blk off (breakPatterns d a b) w' := by
  obtain ⟨L, rfl⟩ : ∃ L, b = a + L := ⟨b - a, by omega⟩
  rw [show a + L - a = L by omega] at h8
  rw [breakPatterns_eq d a L h8]
  obtain ⟨M, hM⟩ : ∃ M : Nat, M = 1 <<< bitsLen L := ⟨_, rfl⟩
  have hM1 : 1 ≤ M := by rw [hM, Nat.one_shiftLeft]; exact Nat.two_pow_pos _
  have hM2 : M ≤ 2 * L := by rw [hM, Nat.one_shiftLeft]; exact two_pow_bitsLen_le (by omega)
  have cp := fun w => power32 L (by omega) w
  rw [← hM] at cp ⊢
  obtain ⟨x, hx⟩ : ∃ x, x = L / 4 := ⟨_, rfl⟩
  have hx1 : 2 ≤ x := by omega
  have hx2 : x * 4 ≤ L := by omega
  have t1 : (L : Int).tdiv 4 = (x : Int) := by rw [hx]; exact (Int.ofNat_tdiv L 4).symm
  have t2 : (L : Int) / 4 = (x : Int) := by omega
  rw [← hx]
  obtain ⟨i0, hi0⟩ : ∃ i0, i0 = a + x * 2 - 1 := ⟨_, rfl⟩
  have hi1 : (i0 : Int) = (a : Int) + (x : Int) * 2 - 1 := by omega
  have hi2 : i0 + 2 < a + L := by omega
  rw [← hi0]
  have h0 : w.alloc (Obj.cells #[.int .u64 (L : Int)] 249) = wR w 0 blk off d L := by
    unfold wR
    rw [ahead_zero, putRow_self _ _ _ _ _ hH, alloc_eq_grow]
  have H0 := (show Hid (w.alloc (Obj.cells #[.int .u64 (L : Int)] 249) = wR w 0 blk off d L) from h0)
  have HH := (show Hid (Holds U32 w blk off d) from hH)
  have hbz : ((a + L : Nat) : Int) - (a : Int) = (L : Int) := by omega
  have hr0 : (UInt64.ofNat L).toNat = L := by simp; omega
  have hle : (a : Int) + (x : Int) * 2 + 1 = (i0 : Int) + 2 := by omega
  have HI := (show Hid ((i0 : Int) = (a : Int) + (x : Int) * 2 - 1) from hi1)
  clear hM hx hi0 hH h0 hi1
  generalize ((a + L : Nat) : Int) = bz at *
  go_enter Tryz.func129, Tryz.ntmps129
  go_wp2_with (first | (go_at_call 153; refine (cp _).mono ?_; rintro e w' ⟨rfl, rfl⟩))
  go_loopw [9] (fun v wr => ∃ (t n : Nat) (r : UInt64) (dk : Array Int), v = .int .i64 ((i0 + t : Nat) : Int) ∧ t ≤ 3 ∧ dk.size = d.size ∧ wr = wR w n blk off dk r.toNat ∧ bpRest a L M i0 (3 - t) t (r, dk) = bpRest a L M i0 3 0 (UInt64.ofNat L, d)) (fun v _ => i0 + 3 - (intOf v).toNat)
  case atStart => exact ⟨0, 0, UInt64.ofNat L, d, by rw [Nat.add_zero, HI.out], by omega, rfl, by rw [hr0]; exact H0.out, rfl⟩
  case round =>
    obtain ⟨t, n, r, dk, rfl, ht, hs, hw, hR⟩ := hrel
    obtain ⟨hc, hf, hc2, hf2⟩ := wR_facts HH.out hblk hs n r.toNat
    rw [← hw] at hc hf hc2 hf2
    obtain ⟨G, hG⟩ : ∃ G : Nat → Int, ∀ t, G t = dk[t]! := ⟨fun t => dk[t]!, fun _ => rfl⟩
    have hcw : ∀ t, t < d.size → wr.cell? ⟨blk, off + t, none⟩ = some (.int .u32 (G t)) := fun t ht => by rw [hG]; exact hc t ht
    obtain ⟨R, hRr⟩ : ∃ R : Nat, R = r.toNat := ⟨_, rfl⟩
    have lR : R < 18446744073709551616 := by rw [hRr]; exact r.toNat_lt
    rw [← hRr] at hc2
    have cn := next32 w.heap.size R lR wr hc2 hf2
    have hN : xorNextN R = (xorNext r).toNat := by rw [hRr, xorNext_toNat]
    have lN : xorNextN R < 18446744073709551616 := xorNextN_lt R lR
    obtain ⟨R', hR'⟩ : ∃ R', R' = xorNextN R := ⟨_, rfl⟩
    rw [← hR'] at cn hN lN
    obtain ⟨O, hO⟩ : ∃ O : Nat, O = R' &&& (M - 1) := ⟨_, rfl⟩
    have lO : O ≤ M - 1 := by rw [hO]; exact Nat.and_le_right
    have eA : bits .and .u64 (R' : Int) ((M : Int) - 1) = (O : Int) := by
      rw [show ((M : Int) - 1) = ((M - 1 : Nat) : Int) by omega, bits_and_u64_nat _ _ lN (by omega), hO]
    obtain ⟨o, ho⟩ : ∃ o, o = if O ≥ L then O - L else O := ⟨_, rfl⟩
    have ho2 : o < L := by rw [ho]; split <;> omega
    have hst := bp_step a L M i0 t r dk o
    have HS := (show Hid (t < 3 → bpRest a L M i0 (3 - t) t (r, dk) = bpRest a L M i0 (3 - (t + 1)) (t + 1) (xorNext r, swp dk (i0 + t) (a + o))) from fun h => hst h (by rw [← hN, ← hO]; exact ho.symm))
    have HG : Hid (∀ t, G t = dk[t]!) := hG
    have HW := (show Hid (wr = wR w n blk off dk r.toNat) from hw)
    have HR := (show Hid (bpRest a L M i0 (3 - t) t (r, dk) = bpRest a L M i0 3 0 (UInt64.ofNat L, d)) from hR)
    have HN := (show Hid (R' = (xorNext r).toNat) from hN)
    have HCN := (show Hid (Unit → Calls Tryz.prog 154 _ _ _) from fun _ => cn)
    clear hst hG hw hR hN hR' hRr hO hc cn
    by_cases h3 : t < 3
    · have h3z : ((i0 + t : Nat) : Int) ≤ (i0 : Int) + 2 := by omega
      go_wp2_with (first | (go_at_call 154; fail))
      refine (HCN.out ()).mono ?_
      rintro e w1 ⟨rfl, rfl⟩
      dsimp only
      have hnb : w.heap.size ≠ blk := by omega
      have hsw := step_world U32 w n 4 blk off dk (i0 + t) (a + o) hblk (by omega) (by omega) (.int .u64 (r.toNat : Int)) (.int .u64 ((xorNext r).toNat : Int)) 249
      have hE : ((((wr.setCell ⟨w.heap.size, 0, none⟩ (.int .u64 (R' : Int))).drewN 4).setCell ⟨blk, off + (i0 + t), none⟩ (.int .u32 (G (a + o)))).setCell ⟨blk, off + (a + o), none⟩ (.int .u32 (G (i0 + t)))) = wR w (n + 4) blk off (swp dk (i0 + t) (a + o)) (xorNext r).toNat := by
        rw [HW.out, HN.out, HG.out, HG.out]
        exact hsw
      have HE := (show Hid _ from hE)
      clear hsw hE
      have fin : Hid (∃ (t' n' : Nat) (r' : UInt64) (dk' : Array Int), Value.int .i64 (((i0 + t : Nat) : Int) + 1) = .int .i64 ((i0 + t' : Nat) : Int) ∧ t' ≤ 3 ∧ dk'.size = d.size ∧ ((((wr.setCell ⟨w.heap.size, 0, none⟩ (.int .u64 (R' : Int))).drewN 4).setCell ⟨blk, off + (i0 + t), none⟩ (.int .u32 (G (a + o)))).setCell ⟨blk, off + (a + o), none⟩ (.int .u32 (G (i0 + t)))) = wR w n' blk off dk' r'.toNat ∧ bpRest a L M i0 (3 - t') t' (r', dk') = bpRest a L M i0 3 0 (UInt64.ofNat L, d)) :=
        ⟨t + 1, n + 4, xorNext r, swp dk (i0 + t) (a + o), by congr 1, by omega, by rw [size_swp]; exact hs, HE.out, by rw [← HR.out, HS.out h3]⟩
      clear HE HS HR HN HG
      obtain ⟨j, hj⟩ : ∃ j, j = i0 + t := ⟨_, rfl⟩
      rw [← hj] at fin ⊢
      have hjl : j < a + L := by omega
      have HJ := (show Hid (j = i0 + t) from hj)
      clear hj
      by_cases hge : L ≤ O
      · have hgz : (L : Int) ≤ (O : Int) := by omega
        have hoz : (O : Int) - (L : Int) = (o : Int) := by rw [ho, if_pos hge]; omega
        clear ho
        by_cases hEq : j = a + o
        · subst hEq
          go_wp2
          go_region
          all_goals go_wp2
          refine ⟨by simpa using fin.out, ?_⟩
          have := HJ.out
          simp [intOf]
          omega
        · go_wp2
          go_region
          all_goals go_wp2
          refine ⟨fin.out, ?_⟩
          have := HJ.out
          simp [intOf]
          omega
      · have hgz : ¬ ((L : Int) ≤ (O : Int)) := by omega
        obtain rfl : o = O := by rw [ho, if_neg hge]
        clear ho
        by_cases hEq : j = a + o
        · subst hEq
          go_wp2
          go_region
          all_goals go_wp2
          refine ⟨by simpa using fin.out, ?_⟩
          have := HJ.out
          simp [intOf]
          omega
        · go_wp2
          go_region
          all_goals go_wp2
          refine ⟨fin.out, ?_⟩
          have := HJ.out
          simp [intOf]
          omega
    · have h3z : ¬ (((i0 + t : Nat) : Int) ≤ (i0 : Int) + 2) := by omega
      obtain rfl : t = 3 := by omega
      go_wp2
      go_end0
      exact ⟨rfl, n, _, by rw [← HR.out, HW.out]; rfl⟩
end Go.Proofs.YtmicdbplkfdfnaaGreatDoor
set_option linter.unusedVariables false
namespace Go.Proofs.YtmicdbplkfdfnaaGreatDoor
open Go.RowKit Go.Sort

theorem up_bounds (p : Int → Bool) (d : Array Int) (j : Nat) : ∀ (m i : Nat), j + 1 - i ≤ m → i ≤ scanUp p d j i ∧ scanUp p d j i ≤ max i (j + 1)
  | 0, i, h => by rw [scanUp_end p d j i (Or.inl (by omega))]; omega
  | m + 1, i, h => by
    by_cases hi : i ≤ j ∧ p d[i]! = true
    · rw [scanUp_go p d j i hi.1 hi.2]
      have := up_bounds p d j m (i + 1) (by omega)
      omega
    · rw [scanUp_end p d j i (by
        by_cases h1 : i ≤ j
        · right; cases h2 : p d[i]! with
          | false => rfl
          | true => exact absurd ⟨h1, h2⟩ hi
        · exact Or.inl h1)]
      omega
theorem down_le (p : Int → Bool) (d : Array Int) (i : Nat) : ∀ j, scanDown p d i j ≤ j
  | 0 => Nat.le_of_eq (by rw [scanDown])
  | j + 1 => by
    rw [scanDown]
    split
    · have := down_le p d i j; omega
    · exact Nat.le_refl _
set_option maxRecDepth 100000 in
set_option maxHeartbeats 2000000 in
theorem peq32 (blk off cap a b pv : Nat) (d : Array Int) (w : World) (hH : Holds U32 w blk off d) (hblk : blk < w.heap.size) (hap : a ≤ pv) (hpb : pv < b) (hb : b ≤ d.size) (hsz : d.size ≤ 1000000) :
    Calls Tryz.prog 134 #[.slice (some ⟨blk, off, none⟩) d.size cap, .int .i64 a, .int .i64 b, .int .i64 pv] w fun e w' => e = .returned (.int .i64 ((partitionEqual ltInt d a b pv).1 : Nat)) ∧ At U32 w blk off (partitionEqual ltInt d a b pv).2 w' := by
  have HH := (show Hid (Holds U32 w blk off d) from hH)
  have hA0 := At.refl hH
  obtain ⟨n, rfl⟩ : ∃ n, b = n + 1 := ⟨b - 1, by omega⟩
  obtain ⟨d1, hd1⟩ : ∃ d1, d1 = swp d a pv := ⟨_, rfl⟩
  have hs1 : d1.size = d.size := by rw [hd1, size_swp]
  have hE : partitionEqual ltInt d a (n + 1) pv = partEqLoop ltInt a (a + 1) n d1 := by rw [hd1]; rfl
  rw [hE]
  obtain ⟨hc, hf⟩ := at_row hA0 hH rfl hblk
  obtain ⟨G, hG⟩ : ∃ G : Nat → Int, ∀ t, G t = d[t]! := ⟨fun t => d[t]!, fun _ => rfl⟩
  have hcw : ∀ t, t < d.size → w.cell? ⟨blk, off + t, none⟩ = some (.int .u32 (G t)) := fun t ht => by rw [hG]; exact hc t ht
  have hsw := at_swap hA0 hH rfl hblk 1 a pv (by omega) (by omega)
  rw [← hG, ← hG, ← hd1] at hsw
  have HSW := (show Hid (At U32 w blk off d1 _) from hsw)
  have hbz : ((n + 1 : Nat) : Int) - 1 = (n : Int) := by omega
  clear hH hE hd1 hsw hc hG
  generalize ((n + 1 : Nat) : Int) = bz at *
  go_enter Tryz.func134, Tryz.ntmps134
  go_upto_region 1 with fail
  go_cut [] (fun wx => At U32 w blk off d1 wx)
  case first =>
    by_cases hEq : pv = a
    · subst hEq
      go_wp2
      go_region
      all_goals go_wp2
      go_meet
      exact HSW.out
    · go_wp2
      go_region
      all_goals go_wp2
      go_meet
      exact HSW.out
  case rest =>
    clear hcw hf HSW
    have HA1 := (show Hid (At U32 w blk off d1 wc) from hcut)
    clear hcut
    go_wp2
    go_loopw [9, 10] (fun v u wr => ∃ (i j : Nat) (dk : Array Int), v = .int .i64 i ∧ u = .int .i64 j ∧ a < i ∧ i ≤ d.size ∧ j < d.size ∧ dk.size = d.size ∧ At U32 w blk off dk wr ∧ partEqLoop ltInt a i j dk = partEqLoop ltInt a (a + 1) n d1) (fun v u _ => (intOf u + 1 - intOf v).toNat)
    case atStart => exact ⟨a + 1, n, d1, by go_num, rfl, by omega, by omega, by omega, hs1, HA1.out, rfl⟩
    case round =>
      obtain ⟨i, j, dk, rfl, rfl, hi, hi2, hj, hs, hA, heq⟩ := hrel
      obtain ⟨V, rfl⟩ : ∃ V, wr = V := ⟨wr, rfl⟩
      have HQ := (show Hid (partEqLoop ltInt a i j dk = partEqLoop ltInt a (a + 1) n d1) from heq)
      have HA := (show Hid (At U32 w blk off dk wr) from hA)
      obtain ⟨hc, hf⟩ := at_row hA HH.out hs hblk
      obtain ⟨G, hG⟩ : ∃ G : Nat → Int, ∀ t, G t = dk[t]! := ⟨fun t => dk[t]!, fun _ => rfl⟩
      have hcw : Hid (∀ t, t < d.size → wr.cell? ⟨blk, off + t, none⟩ = some (.int .u32 (G t))) := fun t ht => by rw [hG]; exact hc t ht
      have hfw := (show Hid (∀ t, t < d.size → wr.frozen? ⟨blk, off + t, none⟩ = false) from hf)
      have HG : Hid (∀ t, G t = dk[t]!) := hG
      clear hG hA heq hc HA1 hf
      obtain ⟨I, hI⟩ : ∃ I, I = scanUp (fun x => !ltInt dk[a]! x) dk j i := ⟨_, rfl⟩
      obtain ⟨J, hJ⟩ : ∃ J, J = scanDown (fun x => ltInt dk[a]! x) dk I j := ⟨_, rfl⟩
      have hIb := up_bounds (fun x => !ltInt dk[a]! x) dk j (j + 1 - i) i (Nat.le_refl _)
      have hJb := down_le (fun x => ltInt dk[a]! x) dk I j
      rw [← hI] at hIb
      rw [← hJ] at hJb
      have HI := (show Hid (I = scanUp (fun x => !ltInt dk[a]! x) dk j i) from hI)
      have HJ := (show Hid (J = scanDown (fun x => ltInt dk[a]! x) dk I j) from hJ)
      clear hI hJ
      generalize hV : wr = V at *
      clear hV
      go_upto_block 2 with fail
      go_cut [9] (fun v wx => v = .int .i64 (I : Int) ∧ ∃ q, wx = V.drewN q)
      case first =>
        go_wp2
        go_loopw [9] (fun v wx => ∃ (k q : Nat), v = .int .i64 k ∧ a < k ∧ k ≤ max i (j + 1) ∧ wx = V.drewN q ∧ scanUp (fun x => !ltInt dk[a]! x) dk j k = I) (fun v _ => j + 2 - (intOf v).toNat)
        case atStart => exact ⟨i, 0, rfl, hi, by omega, rfl, HI.out.symm⟩
        case round =>
          obtain ⟨k, q, rfl, k1, k2, hw, hk⟩ := hrel
          have HK := (show Hid (scanUp (fun x => !ltInt dk[a]! x) dk j k = I) from hk)
          have hcw2 : ∀ t, t < d.size → wr.cell? ⟨blk, off + t, none⟩ = some (.int .u32 (G t)) := fun t ht => by rw [hw]; exact hcw.out t ht
          have HW := (show Hid (wr = V.drewN q) from hw)
          clear hw hk
          go_wp2
          by_cases hkj : k ≤ j
          · go_quiet (first | (go_at_call 133; refine Calls.quiet_of_same (less32 _ _ _)))
            go_wp2
            · have hl : (!ltInt (G a) (G k)) = true := by assumption
              go_roundw
              case rel => exact ⟨k + 1, q + nq, by go_num, by omega, by omega, by rw [HW.out, World.drewN_drewN], by rw [← HK.out, scanUp_go _ dk j k hkj (by rw [HG.out, HG.out] at hl; exact hl)]⟩
              case measure => simp [intOf]; omega
            · have hl : (!ltInt (G a) (G k)) = false := by assumption
              go_meet
              case rel =>
                have hkI : k = I := by rw [← HK.out, scanUp_end _ dk j k (Or.inr (by rw [HG.out, HG.out] at hl; exact hl))]
                exact ⟨by rw [hkI], q + nq, by rw [HW.out, World.drewN_drewN]⟩
          · go_quiet (first | (go_at_call 133; refine Calls.quiet_of_same (less32 _ _ _)))
            go_wp2
            go_meet
            case rel =>
              have hkI : k = I := by rw [← HK.out, scanUp_end _ dk j k (Or.inl hkj)]
              exact ⟨by rw [hkI], q + nq, by rw [HW.out, World.drewN_drewN]⟩
      case rest =>
        obtain ⟨rfl, q1, rfl⟩ := hcut
        go_upto_block 4 with fail
        go_cut [10] (fun v wx => v = .int .i64 (J : Int) ∧ ∃ q, wx = V.drewN q)
        case first =>
          go_wp2
          go_loopw [10] (fun v wx => ∃ (k q : Nat), v = .int .i64 k ∧ k ≤ j ∧ wx = V.drewN q ∧ scanDown (fun x => ltInt dk[a]! x) dk I k = J) (fun v _ => (intOf v).toNat)
          case atStart => exact ⟨j, q1, rfl, Nat.le_refl _, rfl, HJ.out.symm⟩
          case round =>
            obtain ⟨k, q, rfl, k1, hw, hk⟩ := hrel
            have HK := (show Hid (scanDown (fun x => ltInt dk[a]! x) dk I k = J) from hk)
            have hcw2 : ∀ t, t < d.size → wr.cell? ⟨blk, off + t, none⟩ = some (.int .u32 (G t)) := fun t ht => by rw [hw]; exact hcw.out t ht
            have HW := (show Hid (wr = V.drewN q) from hw)
            clear hw hk
            go_wp2
            by_cases hkj : I ≤ k
            · go_quiet (first | (go_at_call 133; refine Calls.quiet_of_same (less32 _ _ _)))
              go_wp2
              · have hl : ltInt (G a) (G k) = true := by assumption
                go_roundw
                case rel => exact ⟨k - 1, q + nq, by congr 1; omega, by omega, by rw [HW.out, World.drewN_drewN], by rw [← HK.out, scanDown_go _ dk I k hkj (by omega) (by rw [HG.out, HG.out] at hl; exact hl)]⟩
                case measure => simp [intOf]; omega
              · have hl : ltInt (G a) (G k) = false := by assumption
                go_meet
                case rel =>
                  have hkI : k = J := by rw [← HK.out, scanDown_end _ dk I k (Or.inr (by rw [HG.out, HG.out] at hl; exact hl))]
                  exact ⟨by rw [hkI], q + nq, by rw [HW.out, World.drewN_drewN]⟩
            · go_quiet (first | (go_at_call 133; refine Calls.quiet_of_same (less32 _ _ _)))
              go_wp2
              go_meet
              case rel =>
                have hkI : k = J := by rw [← HK.out, scanDown_end _ dk I k (Or.inl hkj)]
                exact ⟨by rw [hkI], q + nq, by rw [HW.out, World.drewN_drewN]⟩
        case rest =>
          obtain ⟨rfl, q2, rfl⟩ := hcut
          have hcw2 : ∀ t, t < d.size → (V.drewN q2).cell? ⟨blk, off + t, none⟩ = some (.int .u32 (G t)) := fun t ht => hcw.out t ht
          have hfw2 : ∀ t, t < d.size → (V.drewN q2).frozen? ⟨blk, off + t, none⟩ = false := fun t ht => hfw.out t ht
          have HA2 := (show Hid (At U32 w blk off dk (V.drewN q2)) from at_draw HA.out q2)
          clear HA hcw hfw
          generalize V.drewN q2 = V2 at *
          by_cases hIJ : J < I
          · have hz : (J : Int) < (I : Int) := by omega
            go_wp2
            go_ret
            have he : partEqLoop ltInt a (a + 1) n d1 = (I, dk) := by rw [← HQ.out]; exact partEq_break ltInt a i j dk HI.out HJ.out hIJ
            rw [he]
            exact ⟨rfl, HA2.out⟩
          · have hz : ¬ ((J : Int) < (I : Int)) := by omega
            have hlt := scans_lt ltInt a i j dk (by omega) HI.out HJ.out (by omega)
            have hsw := at_swap HA2.out HH.out hs hblk 1 I J (by omega) (by omega)
            rw [← HG.out, ← HG.out] at hsw
            have HSW := (show Hid (At U32 w blk off (swp dk I J) _) from hsw)
            have HE := (show Hid (partEqLoop ltInt a i j dk = partEqLoop ltInt a (I + 1) (J - 1) (swp dk I J)) from partEq_go ltInt a i j dk HI.out HJ.out (by omega))
            clear hsw
            go_wp2
            go_region
            all_goals go_wp2
            go_roundw
            case rel => exact ⟨I + 1, J - 1, swp dk I J, by go_num, by congr 1; omega, by omega, by omega, by omega, by rw [size_swp]; exact hs, HSW.out, by rw [← HE.out, HQ.out]⟩
            case measure => simp [intOf]; omega
end Go.Proofs.YtmicdbplkfdfnaaGreatDoor
