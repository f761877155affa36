/- The walk of ftoa64, of the least floats. -/
import Derived.Test.YtellndmbllmjgaaGreatDoorCBn9x
import Derived.Test.YtellndmbllmjgaaGreatDoorCFl2x
import Derived.OwnWalk
import Derived.Lib.AtoiErrMem
set_option linter.unusedVariables false
namespace Go.Proofs.YtellndmbllmjgaaGreatDoor
open Go.RowKit Go.Shelf Go.Sort Fs

set_option maxRecDepth 100000 in
set_option maxHeartbeats 1000000 in
theorem ftoa_sub (r M e sh m : Nat) (z ex mt E : Int) (v : Value) (base : Nat) (hz : (r : Int) = z) (w : World)
    (t0 : (z / 9223372036854775808 != 0) = false)
    (hex : bits .and .i64 (wrap64 (z / 4503599627370496)) 2047 = ex) (hex1 : (ex == 2047) = false) (hex0 : (ex == 0) = true) (hexa : 0 ≤ ex) (hexb : ex ≤ 2046)
    (hmt : bits .and .u64 z 4503599627370495 = (M : Int)) (hM0 : ((M : Int) == 0) = false) (hMp : 0 < M)
    (hsh0 : 11 ≤ sh) (hsh1 : sh ≤ 63) (hm : IntKind.u64.wrap ((M : Int) * 2 ^ sh) = (m : Int)) (hE : ex + 1 + -1023 - (sh : Int) - 52 = E)
    (c215 : ∀ w, Calls Tryz.prog 216 #[.int .u64 (M : Int)] w fun e w' => e = .returned (.int .i64 (64 - (sh : Int))) ∧ w' = w)
    (c224 : ∀ w, Laid w → Calls Tryz.prog 225 #[.int .u64 (m : Int), .int .i64 E] w fun r w' => (∃ d i : Nat, Short M e d i ∧ d < 1152921504606846976 ∧ i < 800 ∧ r = .returned (.tuple #[.int .u64 (d : Int), .int .i64 ((i : Int) - 400)])) ∧ Below w.heap.size w w')
    (hlaid : Laid w) (hown : w.ownsRow base 5 1 v 0 []) (hb : base ≤ w.heap.size) :
    Calls Tryz.prog 165 #[v, .float .f64 r, .int .u8 101, .int .i64 (-1)] w fun rr w' => ∃ v' d0 J, Fs.Told M e d0 J ∧ 0 < d0 ∧ d0 < 1152921504606846976 ∧ J < 1000 ∧ rr = .returned v' ∧ w'.ownsRow base 5 1 v' (fmtS (decN d0) ((Lib.nDigits d0 : Int) + (J : Int) - 401)).length ((fmtS (decN d0) ((Lib.nDigits d0 : Int) + (J : Int) - 401)).map bv) ∧ Below base w w' := by
  have x1 : ∀ w, (callFunc 212 #[.float .f64 r]).run Tryz.prog w = .ok (.value (.int .u64 z)) w := fun w => by rw [Tryz.tobits, hz]
  have hs : 64 - (64 - (sh : Int)) = (sh : Int) := by omega
  have HLA : Hid (Laid w) := hlaid
  clear hz hlaid
  go_enter Tryz.func165, Tryz.ntmps165
  go_wp2_with (first | go_in)
  go_quiet (fail)
  go_wp2_with (first | (go_at_call 216; refine (c215 _).mono ?_; rintro e w' ⟨rfl, rfl⟩) | (go_at_call 225; fail))
  have hbz : Below w.heap.size w ((w.drewN nq).alloc (.cells zeros32 234)) := (below_drewN (Below.refl _ _)).alloc (Nat.le_refl _) _
  have hzb : ((w.drewN nq).alloc (.cells zeros32 234)).heap[w.heap.size]? = some (Obj.cells zeros32 234 (0, 0)) := heap_alloc_new (w.drewN nq) (.cells zeros32 234)
  have hzs : ((w.drewN nq).alloc (.cells zeros32 234)).heap.size = w.heap.size + 1 := by simp
  obtain ⟨W0, hW0⟩ : ∃ W0, W0 = (w.drewN nq).alloc (.cells zeros32 234) := ⟨_, rfl⟩
  rw [← hW0] at hbz hzb hzs
  change Calls _ _ _ ((w.drewN nq).alloc (.cells zeros32 234)) _
  rw [← hW0]
  clear hW0
  refine (c224 W0 (HLA.out.below hbz)).mono ?_
  rintro ee w1 ⟨⟨d, i, hS, hd, hi, rfl⟩, hbel⟩
  rw [hzs] at hbel
  have hb1 : Below w.heap.size w w1 := hbz.trans (hbel.mono (by omega))
  have hz1 : w1.heap[w.heap.size]? = some (Obj.cells zeros32 234 (0, 0)) := (hbel.block _ (by omega)).trans hzb
  obtain ⟨d0, t, hdt, hd0⟩ := strip d d (Nat.le_refl _) hS.pos
  have hd00 : 0 < d0 := by
    rcases Nat.eq_zero_or_pos d0 with h | h
    · rw [h] at hd0; simp at hd0
    · exact h
  have hnd : Lib.nDigits d = Lib.nDigits d0 + t := by rw [hdt]; exact nDigits_shift d0 hd00 t
  have hn19 : Lib.nDigits d ≤ 19 := nDigits_le d 19 (by omega) (by omega)
  obtain ⟨K, hK⟩ : ∃ K, Lib.nDigits d0 = K + 1 := ⟨Lib.nDigits d0 - 1, by have := Lib.nDigits_pos d0; omega⟩
  have c218 := Tryz.internal_strconv_numDigits d hS.pos (by omega) w1.drew (show Lib.TabIs Tryz.prog w1 _ _ _ from (HLA.out.below hb1).p10)
  have hHo : Holds encB w1 w.heap.size 0 (Array.replicate (Lib.nDigits d) (0 : UInt8)) := by
    intro j hj
    rw [Array.size_replicate] at hj
    have h32 : zeros32[j]? = some (.int .u8 0) := zeros32_at j (by omega)
    refine ⟨?_, ?_⟩
    · simp only [World.cell?, hz1, Nat.zero_add]
      rw [h32]
      have : (Array.replicate (Lib.nDigits d) (0 : UInt8))[j]! = 0 := by simp [hj]
      rw [this]
      rfl
    · simp [World.frozen?, hz1]
  have c217 := setDigits_any w.heap.size d d0 t (Lib.nDigits d) ((i : Int) - 400) hS.pos (by omega) hdt hd0 rfl (by omega) (by omega) (by omega) (by omega) w1.drew hHo
  generalize Lib.nDigits d = nd at *
  obtain ⟨x, hx⟩ : ∃ x : Int, x = (nd : Int) + (i : Int) - 401 := ⟨_, rfl⟩
  have ekt : ((nd - t : Nat) : Int) = (K : Int) + 1 := by omega
  have edp : (nd : Int) + ((i : Int) - 400) = x + 1 := by omega
  rw [ekt, edp] at c217
  have hK31 : K ≤ 30 := by omega
  have hxa : -1000 < x := by omega
  have hxb : x < 1000 := by omega
  have HX : Hid (x = (nd : Int) + (i : Int) - 401) := hx
  clear hx ekt edp
  have HS : Hid (Short M e d i) := hS
  have HDT : Hid (d = d0 * 10 ^ t) := hdt
  have HND : Hid (nd = Lib.nDigits d0 + t) := hnd
  have HK : Hid (Lib.nDigits d0 = K + 1) := hK
  clear hdt hnd hK
  have HB : Hid (Below w.heap.size w w1) := hb1
  have HZ : Hid (w1.heap[w.heap.size]? = some (Obj.cells zeros32 234 (0, 0))) := hz1
  have HHo : Hid (Holds encB w1.drew w.heap.size 0 (Array.replicate nd (0 : UInt8))) := hHo
  clear hS hb1 hz1 hbel hzb hbz hzs hHo
  go_wp2_with (first | (go_at_call 215; fail))
  go_region_with (first | (go_at_call 219; go_fit c218; rintro e w' ⟨rfl, rfl⟩) | (go_at_call 218; go_fit c217; rintro e w' ⟨rfl, n, v', dk, rfl, hF⟩))
  go_wp2_with (first | (go_at_call 215; fail))
  have hb2 : Below w.heap.size w ((putRow encB w1.drew w.heap.size 0 dk).drewN n) := below_drewN (below_putRow dk HB.out.drew (Nat.le_refl _))
  obtain ⟨C, hC⟩ := heap_putRow (w := w1.drew) dk HZ.out
  have hC2 : ((putRow encB w1.drew w.heap.size 0 dk).drewN n).heap[w.heap.size]? = some (Obj.cells C 234 (0, 0)) := hC
  have hnd' : nd = K + 1 + t := by have := HND.out; have := HK.out; omega
  have hcs : ∀ (j : Nat) c, (decN d0)[j]? = some c → C[j]? = some (bv c) := by
    intro j c hj
    have hjl : j < K + 1 := by
      have := (List.getElem?_eq_some_iff.1 hj).1
      rw [decN_length, HK.out] at this
      exact this
    rw [decN_at d0 j (by rw [HK.out]; exact hjl)] at hj
    have h1 := cell?_putRow encB w1.drew w.heap.size 0 _ dk HHo.out (by rw [hF.size, Array.size_replicate]) j (by rw [hF.size]; omega)
    have h2 : (putRow encB w1.drew w.heap.size 0 dk).cell? ⟨w.heap.size, 0 + j, none⟩ = C[j]? := by
      simp [World.cell?, hC]
    rw [← h2, h1, hF.done j (Nat.zero_le _) (by omega)]
    have h3 : encB (Lib.dg d (nd - 1 - j)) = bv c := by
      show Value.int .u8 _ = Value.int .u8 _
      rw [dg_toNat, HDT.out, hnd', digit_shift d0 t (K + 1) j hjl]
      rw [HK.out] at hj
      rw [Option.some.inj hj]
    rw [h3]
  refine (fmtE_any base w.heap.size K v C (0, 0) (decN d0) (by rw [decN_length, HK.out]) (by omega) x hxa hxb _ (ownsRow_later hown hb2) (Nat.le_trans hb hb2.size) hC2 hcs).mono ?_
  rintro ee w3 ⟨v', rfl, hown3, hbe⟩
  go_wp2
  go_ret
  have hxe : x = (Lib.nDigits d0 : Int) + ((i + t : Nat) : Int) - 401 := by have := HX.out; have := HK.out; omega
  rw [hxe] at hown3
  have hd0l : d0 ≤ d := by
    have := HDT.out
    have h1 : d0 * 1 ≤ d0 * 10 ^ t := Nat.mul_le_mul_left _ (Nat.pow_pos (by omega))
    omega
  exact ⟨_, d0, i + t, told_of_short hMp HS.out HDT.out hd0, hd00, by omega, by omega, rfl, hown3, (hb2.mono hb).trans hbe⟩
end Go.Proofs.YtellndmbllmjgaaGreatDoor
/- ftoa64, at every float above 0. -/
set_option linter.unusedVariables false
namespace Go.Proofs.YtellndmbllmjgaaGreatDoor
open Go.RowKit Go.Shelf Go.Sort Fs Fl

theorem and_52 (r : Nat) (h : r < 18446744073709551616) : bits .and .u64 (r : Int) 4503599627370495 = ((r % 4503599627370496 : Nat) : Int) := by
  refine (u64_and_nat r 4503599627370495 h (by omega)).trans ?_
  have e : r &&& (2 ^ 52 - 1) = r % 2 ^ 52 := Nat.and_two_pow_sub_one_eq_mod _ _
  exact congrArg Int.ofNat e
theorem or_52 (m : Nat) (h : m < 4503599627370496) : bits .or .u64 (m : Int) 4503599627370496 = ((4503599627370496 + m : Nat) : Int) := by
  refine (u64_or_nat m 4503599627370496 (by omega) (by omega)).trans ?_
  have e : 2 ^ 52 * 1 + m = 2 ^ 52 * 1 ||| m := Nat.two_pow_add_eq_or_of_lt h 1
  rw [Nat.or_comm] at e
  exact congrArg Int.ofNat e.symm
theorem and_11i (q : Nat) (h : q < 2048) : bits .and .i64 (wrap64 (q : Int)) 2047 = (q : Int) := by
  rw [wrap64_small q (by omega)]
  have := bits_mask .i64 63 (by decide) (fun n h0 h1 => by rw [IntKind.wrap_i64]; omega) 11 (by decide) (q : Int) (by omega) (by omega)
  refine this.trans ?_
  omega
/-- A number's bits. -/
theorem bitLen_bounds (M : Nat) (h0 : M ≠ 0) (h : M < 18446744073709551616) : 1 ≤ Lib.bitLen M ∧ 2 ^ (Lib.bitLen M - 1) ≤ M ∧ M < 2 ^ Lib.bitLen M := Lib.bitLenAux_bounds 64 M (by omega) h0
theorem magR_pos {r : Nat} (h : 0 < r) : 0 < magR r := by
  rcases Nat.eq_zero_or_pos (magR r) with h1 | h1
  · have := magR_zero.1 h1
    omega
  · exact h1
theorem exp_sub (r : Nat) (h : r < 4503599627370496) : expR r = 0 ∧ r / 4503599627370496 = 0 := by
  have : r / 4503599627370496 = 0 := Nat.div_eq_of_lt h
  exact ⟨by unfold expR; rw [this], this⟩
theorem exp_norm (r : Nat) (h : ¬ r < 4503599627370496) (h1 : r < 9218868437227405312) : 1 ≤ r / 4503599627370496 ∧ r / 4503599627370496 ≤ 2046 ∧ expR r + 1 = r / 4503599627370496 := by
  have a : 1 ≤ r / 4503599627370496 := by omega
  have b : r / 4503599627370496 ≤ 2046 := by omega
  exact ⟨a, b, by unfold expR; omega⟩
theorem exp_lt (r : Nat) (h1 : r < 9218868437227405312) : expR r < 2046 := by
  have b : r / 4503599627370496 ≤ 2046 := by omega
  unfold expR
  omega
theorem top_zero (r : Nat) (h1 : r < 9218868437227405312) : ((r : Int) / 9223372036854775808 != 0) = false := by
  rw [bne_eq_false_iff_eq]
  omega
theorem exp_and (r : Nat) (h1 : r < 9218868437227405312) : bits .and .i64 (wrap64 ((r : Int) / 4503599627370496)) 2047 = ((r / 4503599627370496 : Nat) : Int) := by
  have hq : (r : Int) / 4503599627370496 = ((r / 4503599627370496 : Nat) : Int) := rfl
  rw [hq]
  exact and_11i _ (by omega)
theorem int_ne (a : Nat) (b : Int) (h : (a : Int) ≠ b) : ((a : Int) == b) = false := by
  rw [beq_eq_false_iff_ne]
  exact h
set_option maxHeartbeats 1000000 in
theorem ftoa_any (r : Nat) (h0 : 0 < r) (h1 : r < 9218868437227405312) (v : Value) (base : Nat) (w : World) (hlaid : Laid w) (hown : w.ownsRow base 5 1 v 0 []) (hb : base ≤ w.heap.size) :
    Calls Tryz.prog 165 #[v, .float .f64 r, .int .u8 101, .int .i64 (-1)] w fun rr w' => ∃ v' d0 J, Fs.Told (magR r) (expR r) d0 J ∧ 0 < d0 ∧ d0 < 1152921504606846976 ∧ J < 1000 ∧ rr = .returned v' ∧ w'.ownsRow base 5 1 v' (fmtS (decN d0) ((Lib.nDigits d0 : Int) + (J : Int) - 401)).length ((fmtS (decN d0) ((Lib.nDigits d0 : Int) + (J : Int) - 401)).map bv) ∧ Below base w w' := by
  have hM := magR_pos h0
  have hMl := magR_lt r
  obtain ⟨b1, b2, b3⟩ := bitLen_bounds (magR r) (by omega) (by omega)
  have hL53 : Lib.bitLen (magR r) ≤ 53 := by
    rcases Nat.lt_or_ge 53 (Lib.bitLen (magR r)) with h | h
    · have : 2 ^ 53 ≤ 2 ^ (Lib.bitLen (magR r) - 1) := Nat.pow_le_pow_right (by omega) (by omega)
      omega
    · exact h
  obtain ⟨sh, hsh⟩ : ∃ sh, sh = 64 - Lib.bitLen (magR r) := ⟨_, rfl⟩
  have hLs : Lib.bitLen (magR r) = 64 - sh := by omega
  have hp : 2 ^ (64 - sh) * 2 ^ sh = 18446744073709551616 := by rw [← Nat.pow_add, show 64 - sh + sh = 64 by omega]
  have hp1 : 2 ^ (64 - sh - 1) * 2 ^ sh = 9223372036854775808 := by rw [← Nat.pow_add, show 64 - sh - 1 + sh = 63 by omega]
  rw [hLs] at b2 b3
  have hm0 : 9223372036854775808 ≤ magR r * 2 ^ sh := by rw [← hp1]; exact Nat.mul_le_mul_right _ b2
  have hm1 : magR r * 2 ^ sh + 2 ^ sh ≤ 18446744073709551616 := by
    rw [← hp, ← Nat.succ_mul]
    exact Nat.mul_le_mul_right _ b3
  have hmI : IntKind.u64.wrap ((magR r : Int) * 2 ^ sh) = ((magR r * 2 ^ sh : Nat) : Int) := by
    have : (magR r : Int) * 2 ^ sh = ((magR r * 2 ^ sh : Nat) : Int) := by rw [Int.natCast_mul, Int.natCast_pow]; rfl
    have hps := Nat.two_pow_pos sh
    rw [this, IntKind.wrap_u64]
    omega
  have he : expR r < 2046 := exp_lt r h1
  have hs0 : 11 ≤ sh := by omega
  have hs1 : sh ≤ 63 := by omega
  have hn : magR r < 4503599627370496 → expR r = 0 := by
    intro h
    rcases Nat.eq_zero_or_pos (expR r) with h2 | h2
    · exact h2
    · have := magR_ge (a := r) (by omega)
      omega
  have hn2 : 4503599627370496 ≤ magR r ↔ sh = 11 := by
    constructor
    · intro h
      rcases Nat.lt_or_ge 52 (64 - sh) with h2 | h2
      · omega
      · have : 2 ^ (64 - sh) ≤ 2 ^ 52 := Nat.pow_le_pow_right (by omega) h2
        omega
    · intro h
      rw [h] at b2
      exact b2
  have c215 : ∀ w, Calls Tryz.prog 216 #[.int .u64 (magR r : Int)] w fun e w' => e = .returned (.int .i64 (64 - (sh : Int))) ∧ w' = w := by
    intro w
    refine (Tryz.bits_Len64 (magR r : Int) w (by omega) (by omega)).mono ?_
    rintro e w' ⟨rfl, rfl⟩
    refine ⟨?_, rfl⟩
    have : ((Lib.bitLen (magR r : Int).toNat : Nat) : Int) = 64 - (sh : Int) := by
      rw [Int.toNat_natCast, hLs]
      omega
    rw [this]
  have c224 := fun (w : World) (hw : Laid w) => shortFloat_any (magR r) (expR r) sh hM he hn hs0 hs1 hn2 hm0 hm1 w hw.size hw.pow
  have t0 := top_zero r h1
  have hex := exp_and r h1
  have hM0 := int_ne (magR r) 0 (by omega)
  clear b1 b2 b3 hp hp1 hLs hsh hm0 hm1 hn hn2 he hL53
  by_cases hr : r < 4503599627370496
  · have hmr : magR r = r := if_pos hr
    obtain ⟨her, hqr⟩ := exp_sub r hr
    have h5 : bits .and .u64 (r : Int) 4503599627370495 = (magR r : Int) := by rw [and_52 r (by omega), hmr, Nat.mod_eq_of_lt hr]
    rw [hqr] at hex
    exact ftoa_sub r (magR r) (expR r) sh (magR r * 2 ^ sh) r 0 0 ((expR r : Int) - 1074 - (sh : Int)) v base rfl w t0 hex rfl rfl (by omega) (by omega) h5 hM0 hM hs0 hs1 hmI (by rw [her]; omega) c215 c224 hlaid hown hb
  · have hmr : magR r = 4503599627370496 + r % 4503599627370496 := if_neg hr
    obtain ⟨q1, q2, q3⟩ := exp_norm r hr h1
    have h5 := and_52 r (by omega)
    have h6 : bits .or .u64 ((r % 4503599627370496 : Nat) : Int) 4503599627370496 = (magR r : Int) := by rw [or_52 _ (Nat.mod_lt _ (by omega)), hmr]
    have h7 : ((r / 4503599627370496 : Nat) : Int) + -1023 - (sh : Int) - 52 = (expR r : Int) - 1074 - (sh : Int) := by omega
    have h8 := int_ne (r / 4503599627370496) 2047 (by omega)
    have h9 := int_ne (r / 4503599627370496) 0 (by omega)
    have h10 : ((r / 4503599627370496 : Nat) : Int) ≤ 2046 := by omega
    exact ftoa_norm r (magR r) (expR r) sh (magR r * 2 ^ sh) r ((r / 4503599627370496 : Nat) : Int) ((r % 4503599627370496 : Nat) : Int) ((expR r : Int) - 1074 - (sh : Int)) v base rfl w t0 hex h8 h9 (by omega) h10 h5 h6 hM0 hM hs0 hs1 hmI h7 c215 c224 hlaid hown hb
end Go.Proofs.YtellndmbllmjgaaGreatDoor
/- FormatFloat, at every float above 0. -/
set_option linter.unusedVariables false
namespace Go.Proofs.YtellndmbllmjgaaGreatDoor
open Go.RowKit Go.Shelf Go.Sort Fs Fl

/-- Bytes as a text. -/
def txt (l : List Nat) : ByteArray := ⟨(l.map UInt8.ofNat).toArray⟩
theorem conv_row {W : World} {base : Nat} {g cap : Nat} {bs : List Nat} (hb : ∀ b ∈ bs, b < 256) (h : W.ownsRow base 5 1 (.slice (some ⟨g, 0, none⟩) bs.length cap) bs.length (bs.map bv)) :
    (convert 92 9 (.slice (some ⟨g, 0, none⟩) bs.length cap)).run Tryz.prog W = .ok (.string (txt bs)) W := by
  have hc := h.cells (g := g) rfl
  have := run_convert_bytes_back (P := Tryz.prog) W 92 9 5 ⟨g, 0, none⟩ cap (bs.map UInt8.ofNat) Tryz.underlying92 Tryz.underlying5 Tryz.underlying9 (fun j hj => by
    rw [List.length_map] at hj
    have h1 := hc j (bv bs[j]) (by simp [hj])
    rw [h1]
    have h2 : bs[j] < 256 := hb _ (List.getElem_mem hj)
    simp [bv, List.getElem_map, UInt8.toNat_ofNat', Nat.mod_eq_of_lt h2])
  simpa [txt] using this
theorem own_slice {W : World} {base n : Nat} {v : Value} {xs : List Value} (hn : 0 < n) (h : W.ownsRow base 5 1 v n xs) : ∃ g cap, v = .slice (some ⟨g, 0, none⟩) n cap := by
  rcases h.2 with ⟨_, h0⟩ | ⟨g, cap, _, hv, _⟩
  · omega
  · exact ⟨g, cap, hv⟩
theorem decN_lt (d : Nat) : ∀ b ∈ decN d, b < 58 := by
  intro b hb
  obtain ⟨j, hj, rfl⟩ := List.mem_iff_getElem.1 hb
  have h1 : (decN d)[j]? = some (decN d)[j] := List.getElem?_eq_getElem hj
  rw [decN_length] at hj
  rw [decN_at d j hj] at h1
  have : d / 10 ^ (Lib.nDigits d - 1 - j) % 10 < 10 := Nat.mod_lt _ (by omega)
  have := Option.some.inj h1
  omega
theorem fmtE_mem (c0 : Nat) (rest : List Nat) (neg : Bool) (a b : Nat) (h : b ∈ fmtE c0 rest neg a) : b = c0 ∨ b = 46 ∨ b ∈ rest ∨ b = 101 ∨ b = 45 ∨ b = 43 ∨ b ∈ expD a := by
  unfold fmtE at h
  cases rest <;> cases neg <;> simp at h <;> grind
theorem fmtS_lt (D : List Nat) (hD : ∀ b ∈ D, b < 58) (hne : D ≠ []) (x : Int) (h1 : -1000 < x) (h2 : x < 1000) : ∀ b ∈ fmtS D x, b < 256 := by
  obtain ⟨c0, rest, rfl⟩ : ∃ c0 rest, D = c0 :: rest := by
    cases D with
    | nil => exact absurd rfl hne
    | cons a l => exact ⟨a, l, rfl⟩
  have hc0 : c0 < 58 := hD c0 (by simp)
  have hr : ∀ b ∈ rest, b < 58 := fun b hb => hD b (by simp [hb])
  have hx : x.natAbs < 1000 := by omega
  have he : ∀ b ∈ expD x.natAbs, b < 256 := by
    intro b hb
    unfold expD at hb
    split at hb
    · simp at hb
      omega
    · split at hb
      · simp at hb
        omega
      · simp at hb
        omega
  intro b hb
  have h := fmtE_mem c0 rest (decide (x < 0)) x.natAbs b hb
  rcases h with h | h | h | h | h | h | h
  · omega
  · omega
  · have := hr b h
    omega
  · omega
  · omega
  · omega
  · exact he b h
theorem fmtS_pos (D : List Nat) (x : Int) : 0 < (fmtS D x).length := by
  unfold fmtS fmtE
  simp
set_option maxRecDepth 100000 in
set_option maxHeartbeats 1000000 in
theorem formatIn_any (r : Nat) (h0 : 0 < r) (h1 : r < 9218868437227405312) (w : World) (hlaid : Laid w) :
    Calls Tryz.prog 119 #[.float .f64 r, .int .u8 101, .int .i64 (-1), .int .i64 64] w fun rr w' => ∃ d0 J, Fs.Told (magR r) (expR r) d0 J ∧ 0 < d0 ∧ d0 < 1152921504606846976 ∧ J < 1000 ∧ rr = .returned (.string (txt (fmtS (decN d0) ((Lib.nDigits d0 : Int) + (J : Int) - 401)))) ∧ Below w.heap.size w w' := by
  obtain ⟨i0, hi, hz0, hz1, hz2⟩ := info_parts info5
  go_enter Tryz.func119, Tryz.ntmps119
  go_wp2_with (first | (refine wpList_make_own _ rfl _ _ 92 rfl w.heap.size 5 i0 (.int .u8 0) 1 Tryz.underlying92 hi hz0 hz1 .i64 .i64 _ 24 rfl rfl rfl (by rw [hz2]; omega) (by unfold maxLen; omega) (Nat.le_refl _) ?_; intro w1 hown0 hg0) | (go_at_call 165; fail))
  have hb1 : Below w.heap.size w w1 := (Below.refl _ _).grown hg0 (Nat.le_refl _) (fun k e => by cases e)
  refine (ftoa_any r h0 h1 _ w.heap.size w1 (hlaid.below hb1) hown0 hb1.size).mono ?_
  rintro ee w2 ⟨v', d0, J, hT, hd0, hd1, hJ, rfl, hown2, hb2⟩
  have hnl : Lib.nDigits d0 ≤ 19 := nDigits_le d0 19 (by omega) (by omega)
  have hnp := Lib.nDigits_pos d0
  have hne : decN d0 ≠ [] := fun h => by have := decN_length d0; rw [h] at this; simp at this; omega
  have hlt := fmtS_lt (decN d0) (decN_lt d0) hne ((Lib.nDigits d0 : Int) + (J : Int) - 401) (by omega) (by omega)
  have hpos := fmtS_pos (decN d0) ((Lib.nDigits d0 : Int) + (J : Int) - 401)
  have HT : Hid (Fs.Told (magR r) (expR r) d0 J) := hT
  have HN : Hid (0 < d0 ∧ d0 < 1152921504606846976 ∧ J < 1000) := ⟨hd0, hd1, hJ⟩
  have HF : Hid (∃ F, F = fmtS (decN d0) ((Lib.nDigits d0 : Int) + (J : Int) - 401)) := ⟨_, rfl⟩
  generalize hF : fmtS (decN d0) ((Lib.nDigits d0 : Int) + (J : Int) - 401) = F at *
  obtain ⟨g, cap, rfl⟩ := own_slice hpos hown2
  have hcv := conv_row hlt hown2
  have HFF : Hid (fmtS (decN d0) ((Lib.nDigits d0 : Int) + (J : Int) - 401) = F) := hF
  clear hT hd0 hd1 hJ hF hown2 hnl hnp hne HF
  go_wp2
  go_ret
  exact ⟨d0, J, HT.out, HN.out.1, HN.out.2.1, HN.out.2.2, by rw [HFF.out]; rfl, hb1.trans hb2⟩
/-- **strconv.FormatFloat, at every float above 0.** -/
theorem format_any (r : Nat) (h0 : 0 < r) (h1 : r < 9218868437227405312) (w : World) (hlaid : Laid w) :
    Calls Tryz.prog 73 #[.float .f64 r, .int .u8 101, .int .i64 (-1), .int .i64 64] w fun rr w' => ∃ d0 J, Fs.Told (magR r) (expR r) d0 J ∧ 0 < d0 ∧ d0 < 1152921504606846976 ∧ J < 1000 ∧ rr = .returned (.string (txt (fmtS (decN d0) ((Lib.nDigits d0 : Int) + (J : Int) - 401)))) ∧ Below w.heap.size w w' := by
  have c := formatIn_any r h0 h1 w hlaid
  have C := (show Hid _ from c)
  clear c
  go_enter Tryz.func73, Tryz.ntmps73
  go_wp2_with (first | (go_at_call 119; refine (formatIn_any r h0 h1 w hlaid).mono ?_; rintro ee w1 ⟨d0, J, hT, hd0, hd1, hJ, rfl, hb⟩))
  go_ret
  exact ⟨d0, J, hT, hd0, hd1, hJ, rfl, hb⟩
end Go.Proofs.YtellndmbllmjgaaGreatDoor
/- The written number taken apart: digits, exponent. -/
set_option linter.unusedVariables false
namespace Go.Proofs.YtellndmbllmjgaaGreatDoor
open Go.RowKit Go.Shelf Go.Sort Fs Fl

theorem index_at (c : UInt8) (b : List UInt8) : ∀ (a : List UInt8), (∀ x ∈ a, x ≠ c) → Lib.index (a ++ c :: b) [c] = (a.length : Int)
  | [], _ => by
    simp [Lib.index]
  | x :: a, h => by
    have hx : x ≠ c := h x (by simp)
    have ih := index_at c b a (fun y hy => h y (by simp [hy]))
    have hp : [c].isPrefixOf (x :: (a ++ c :: b)) = false := by
      simp [List.isPrefixOf]
      exact fun e => hx e.symm
    rw [List.cons_append, Lib.index, hp, ih]
    simp
theorem index_none (c : UInt8) : ∀ (a : List UInt8), (∀ x ∈ a, x ≠ c) → Lib.index a [c] = -1
  | [], _ => by simp [Lib.index]
  | x :: a, h => by
    have hx : x ≠ c := h x (by simp)
    have ih := index_none c a (fun y hy => h y (by simp [hy]))
    have hp : [c].isPrefixOf (x :: a) = false := by
      simp [List.isPrefixOf]
      exact fun e => hx e.symm
    rw [Lib.index, hp, ih]
    simp
theorem cut_at (c : UInt8) (a b : List UInt8) (h : ∀ x ∈ a, x ≠ c) : Lib.cut (a ++ c :: b) [c] = (a, b, true) := by
  unfold Lib.cut
  rw [index_at c b a h, if_pos (by omega)]
  simp
theorem count_none (c : UInt8) (a : List UInt8) (h : ∀ x ∈ a, x ≠ c) : Lib.count a [c] = 0 := by
  unfold Lib.count Lib.countFrom
  rw [index_none c a h]
  rfl
theorem count_one (c : UInt8) (a b : List UInt8) (h : ∀ x ∈ a, x ≠ c) (h2 : ∀ x ∈ b, x ≠ c) : Lib.count (a ++ c :: b) [c] = 1 := by
  unfold Lib.count Lib.countFrom
  rw [index_at c b a h]
  have hd : (a ++ c :: b).drop ((a.length : Int).toNat + [c].length) = b := by simp
  have hb : ((a.length : Int) == -1) = false := by rw [beq_eq_false_iff_ne]; omega
  rw [hd, hb]
  have : Lib.countFrom [c] (a ++ c :: b).length b = 0 := by
    cases h3 : (a ++ c :: b).length with
    | zero => rfl
    | succ n =>
      unfold Lib.countFrom
      rw [index_none c b h2]
      rfl
  rw [this]
  rfl
theorem replace_one (c : UInt8) (a b : List UInt8) (h : ∀ x ∈ a, x ≠ c) (h2 : ∀ x ∈ b, x ≠ c) : Lib.replace (a ++ c :: b) [c] [] 1 = a ++ b := by
  unfold Lib.replace Lib.replaceNum
  rw [count_one c a b h h2]
  have e1 : ([c] == ([] : List UInt8)) = false := rfl
  have e2 : (if (1 : Int) < 0 ∨ ((1 : Nat) : Int) < 1 then 1 else (1 : Int).toNat) = 0 + 1 := by simp
  rw [e1, e2, Lib.replaceK_hit [c] [] 0 (a ++ c :: b) a.length (index_at c b a h)]
  simp [Lib.replaceK]
theorem replace_none (c : UInt8) (a : List UInt8) (h : ∀ x ∈ a, x ≠ c) : Lib.replace a [c] [] 1 = a := by
  unfold Lib.replace Lib.replaceNum
  rw [count_none c a h]
  simp [Lib.replaceK]
theorem exp_all : ∀ a : Fin 1000, Lib.decNat ((expD a.val).map UInt8.ofNat) = some a.val := by decide +kernel
theorem exp_read (a : Nat) (h : a < 1000) : Lib.decNat ((expD a).map UInt8.ofNat) = some a := exp_all ⟨a, h⟩
theorem exp_len (a : Nat) : (expD a).length ≤ 3 := by
  unfold expD
  split
  · simp
  · split <;> simp
end Go.Proofs.YtellndmbllmjgaaGreatDoor
/- The walk of num.shortest. -/
set_option linter.unusedVariables false
namespace Go.Proofs.YtellndmbllmjgaaGreatDoor
open Go.RowKit Go.Shelf Go.Sort Fs Fl

theorem txt_list (l : List Nat) : (txt l).data.toList = l.map UInt8.ofNat := by simp [txt]
theorem txt_size (l : List Nat) : (txt l).size = l.length := by simp [txt, ByteArray.size]
/-- The digits as they stand ahead of 'e'. -/
def mantS (D : List Nat) : List Nat := [D.headD 0] ++ (if D.tail = [] then [] else [46] ++ D.tail)
def expS (x : Int) : List Nat := (if decide (x < 0) then 45 else 43) :: expD x.natAbs
theorem fmtS_eq (D : List Nat) (x : Int) : fmtS D x = mantS D ++ 101 :: expS x := by
  unfold fmtS fmtE mantS expS
  simp
theorem ofNat_ne {a b : Nat} (ha : a < 256) (hb : b < 256) (h : a ≠ b) : UInt8.ofNat a ≠ UInt8.ofNat b := by
  intro e
  have := congrArg UInt8.toNat e
  rw [UInt8.toNat_ofNat', UInt8.toNat_ofNat', Nat.mod_eq_of_lt ha, Nat.mod_eq_of_lt hb] at this
  exact h this
theorem digits_no (D : List Nat) (hD : ∀ b ∈ D, b < 58 ∧ 48 ≤ b) (c : Nat) (hc : c = 46 ∨ c = 101) : ∀ x ∈ D.map UInt8.ofNat, x ≠ UInt8.ofNat c := by
  intro x hx
  obtain ⟨b, hb, rfl⟩ := List.mem_map.1 hx
  have := hD b hb
  exact ofNat_ne (by omega) (by omega) (by omega)
theorem decN_ge (d : Nat) : ∀ b ∈ decN d, b < 58 ∧ 48 ≤ b := by
  intro b hb
  obtain ⟨j, hj, rfl⟩ := List.mem_iff_getElem.1 hb
  have h1 : (decN d)[j]? = some (decN d)[j] := List.getElem?_eq_getElem hj
  rw [decN_length] at hj
  rw [decN_at d j hj] at h1
  have : d / 10 ^ (Lib.nDigits d - 1 - j) % 10 < 10 := Nat.mod_lt _ (by omega)
  have := Option.some.inj h1
  omega
theorem mant_cases (D : List Nat) (hne : D ≠ []) : ∃ c0 rest, D = c0 :: rest ∧ ((rest = [] ∧ mantS D = D) ∨ (rest ≠ [] ∧ mantS D = [c0] ++ 46 :: rest)) := by
  cases D with
  | nil => exact absurd rfl hne
  | cons c0 rest =>
    refine ⟨c0, rest, rfl, ?_⟩
    cases rest with
    | nil => exact Or.inl ⟨rfl, rfl⟩
    | cons a l => exact Or.inr ⟨by simp, rfl⟩
theorem mant_no101 (D : List Nat) (hne : D ≠ []) (hD : ∀ b ∈ D, b < 58 ∧ 48 ≤ b) : ∀ x ∈ (mantS D).map UInt8.ofNat, x ≠ 101 := by
  obtain ⟨c0, rest, rfl, h⟩ := mant_cases D hne
  rcases h with ⟨_, h⟩ | ⟨_, h⟩
  · rw [h]
    exact digits_no _ hD 101 (Or.inr rfl)
  · rw [h]
    intro x hx
    obtain ⟨b, hb, rfl⟩ := List.mem_map.1 hx
    have hb' : b < 58 := by
      simp at hb
      rcases hb with hb | hb | hb
      · rw [hb]; exact (hD c0 (by simp)).1
      · omega
      · exact (hD b (by simp [hb])).1
    exact ofNat_ne (b := 101) (by omega) (by omega) (by omega)
theorem mant_replace (D : List Nat) (hne : D ≠ []) (hD : ∀ b ∈ D, b < 58 ∧ 48 ≤ b) : Lib.replace ((mantS D).map UInt8.ofNat) [46] [] 1 = D.map UInt8.ofNat := by
  obtain ⟨c0, rest, rfl, h⟩ := mant_cases D hne
  rcases h with ⟨_, h⟩ | ⟨_, h⟩
  · rw [h]
    exact replace_none 46 _ (digits_no _ hD 46 (Or.inl rfl))
  · rw [h]
    have h1 := digits_no [c0] (fun b hb => hD b (by simp at hb; simp [hb])) 46 (Or.inl rfl)
    have h2 := digits_no rest (fun b hb => hD b (by simp [hb])) 46 (Or.inl rfl)
    have := replace_one 46 ([c0].map UInt8.ofNat) (rest.map UInt8.ofNat) h1 h2
    simpa using this
theorem exp_atoi (x : Int) (h1 : -1000 < x) (h2 : x < 1000) : Lib.atoi ((expS x).map UInt8.ofNat) = some x := by
  unfold expS
  rw [List.map_cons]
  have he := exp_read x.natAbs (by omega)
  rcases Int.lt_or_le x 0 with h | h
  · rw [decide_eq_true h]
    simp only [if_true, Lib.atoi]
    rw [he]
    simp
    omega
  · rw [decide_eq_false (by omega)]
    simp only [Lib.atoi]
    rw [he]
    simp
    omega
/-- Two cells, written one behind the other. -/
theorem heap_two {w : World} {g : Nat} {a b : Value} {t : TypeId} {fr : Nat × Nat} (h : w.heap[g]? = some (Obj.cells #[a, b] t fr)) (a' b' : Value) : ((w.setCell ⟨g, 0, none⟩ a').setCell ⟨g, 1, none⟩ b').heap[g]? = some (Obj.cells #[a', b'] t fr) := by
  rw [setCell_eq, setCell_eq, mapBlock_mapBlock]
  simp only [mapBlock, Array.getElem?_modify, if_true]
  rw [h]
  rfl
set_option maxRecDepth 100000 in
set_option maxHeartbeats 1000000 in
theorem shortest_any (r : Nat) (h0 : 0 < r) (h1 : r < 9218868437227405312) (w : World) (hlaid : Laid w) :
    Calls Tryz.prog 26 #[.float .f64 r] w fun rr w' => ∃ d0 J, Fs.Told (magR r) (expR r) d0 J ∧ 0 < d0 ∧ d0 < 1152921504606846976 ∧ J < 1000 ∧ rr = .returned (.agg #[.string (txt (decN d0)), .int .i64 ((Lib.nDigits d0 : Int) + (J : Int) - 400)]) ∧ Below w.heap.size w w' := by
  obtain ⟨W0, hW0⟩ : ∃ W0, W0 = w.alloc (.cells #[.string ⟨#[]⟩, .int .i64 0] 46) := ⟨_, rfl⟩
  have hbz : Below w.heap.size w W0 := by rw [hW0]; exact (Below.refl _ _).alloc (Nat.le_refl _) _
  have hzb : W0.heap[w.heap.size]? = some (Obj.cells #[.string ⟨#[]⟩, .int .i64 0] 46 (0, 0)) := by rw [hW0]; exact heap_alloc_new w _
  have hzs : W0.heap.size = w.heap.size + 1 := by rw [hW0]; simp
  have cf := format_any r h0 h1 W0 (hlaid.below hbz)
  have HLA : Hid (Laid w) := hlaid
  clear hlaid
  go_enter Tryz.func26, Tryz.ntmps26
  go_wp2_with (first | (go_at_call 73; fail))
  rw [← hW0]
  clear hW0
  refine cf.mono ?_
  rintro ee w1 ⟨d0, J, hT, hd0, hd1, hJ, rfl, hb⟩
  clear cf
  rw [hzs] at hb
  have hnl : Lib.nDigits d0 ≤ 19 := nDigits_le d0 19 (by omega) (by omega)
  have hnp := Lib.nDigits_pos d0
  have hne : decN d0 ≠ [] := fun h => by have := decN_length d0; rw [h] at this; simp at this; omega
  have hD := decN_ge d0
  obtain ⟨x, hx⟩ : ∃ x : Int, x = (Lib.nDigits d0 : Int) + (J : Int) - 401 := ⟨_, rfl⟩
  have hxa : -1000 < x := by omega
  have hxb : x < 1000 := by omega
  have hb1 : Below w.heap.size w w1 := hbz.trans (hb.mono (by omega))
  have hz1 : w1.heap[w.heap.size]? = some (Obj.cells #[.string ⟨#[]⟩, .int .i64 0] 46 (0, 0)) := (hb.block _ (by omega)).trans hzb
  obtain ⟨mx, hmx⟩ := (HLA.out.below hb1).most
  have hmlen : (mantS (decN d0)).length ≤ 30 := by
    obtain ⟨c0, rest, he, h⟩ := mant_cases (decN d0) hne
    have hl := decN_length d0
    rcases h with ⟨_, h⟩ | ⟨_, h⟩
    · rw [h]; omega
    · rw [h, he] at *
      simp at hl ⊢
      omega
  have helen : (expS x).length ≤ 10 := by
    unfold expS
    have := exp_len x.natAbs
    simp
    omega
  have cc := Tryz.strings_Cut (txt (fmtS (decN d0) x)) ⟨#[101]⟩ mx w1 (by rw [txt_size, fmtS_eq]; simp; omega) hmx
  have ecut : Lib.cut (txt (fmtS (decN d0) x)).data.toList (ByteArray.mk #[101]).data.toList = ((mantS (decN d0)).map UInt8.ofNat, (expS x).map UInt8.ofNat, true) := by
    rw [txt_list, fmtS_eq, List.map_append, List.map_cons]
    exact cut_at 101 _ _ (mant_no101 (decN d0) hne hD)
  rw [ecut] at cc
  simp only at cc
  have hat := exp_atoi x hxa hxb
  have hrp := mant_replace (decN d0) hne hD
  rw [← hx]
  have HX : Hid (x = (Lib.nDigits d0 : Int) + (J : Int) - 401) := hx
  have HT : Hid (Fs.Told (magR r) (expR r) d0 J ∧ 0 < d0 ∧ d0 < 1152921504606846976 ∧ J < 1000) := ⟨hT, hd0, hd1, hJ⟩
  have HB : Hid (Below w.heap.size w w1) := hb1
  have HZ : Hid (w1.heap[w.heap.size]? = some (Obj.cells #[.string ⟨#[]⟩, .int .i64 0] 46 (0, 0))) := hz1
  clear ecut hx hT hd0 hd1 hJ hb1 hz1 hb hzb hbz hzs hnl hnp hne hD
  go_wp2_with (first | (go_at_call 72; refine cc.mono ?_; rintro ee w2 ⟨rfl, n1, rfl⟩) | (go_at_call 74; fail))
  refine (Tryz.strconv_Atoi ⟨((expS x).map UInt8.ofNat).toArray⟩ x (by simp [ByteArray.size]; omega) (by simpa using hat) (w1.drewN n1)).mono ?_
  rintro ee w2 ⟨rfl, tt, hw2⟩
  have hbe : Below (w1.drewN n1).heap.size (w1.drewN n1) w2 := by rw [hw2]; exact Lib.bytesWorld_below _ _ _
  have hs1 : w.heap.size < w1.heap.size := lt_of_get HZ.out
  have hb2 : Below w.heap.size w w2 := (below_drewN HB.out).trans (hbe.mono (Nat.le_of_lt hs1))
  have hz2 : w2.heap[w.heap.size]? = some (Obj.cells #[.string ⟨#[]⟩, .int .i64 0] 46 (0, 0)) := (hbe.block _ hs1).trans HZ.out
  have hs2 : w.heap.size < w2.heap.size := lt_of_get hz2
  obtain ⟨my, hmy⟩ := (HLA.out.below hb2).most
  have cr := Tryz.strings_Replace ⟨((mantS (decN d0)).map UInt8.ofNat).toArray⟩ ⟨#[46]⟩ ⟨#[]⟩ 1 my w2 (by simp [ByteArray.size]; omega) hmy (by decide) (by simp [ByteArray.size]; omega)
  have erp : Lib.replace (ByteArray.mk ((mantS (decN d0)).map UInt8.ofNat).toArray).data.toList (ByteArray.mk #[46]).data.toList (ByteArray.mk #[]).data.toList 1 = (decN d0).map UInt8.ofNat := hrp
  rw [erp] at cr
  have HB2 : Hid (Below w.heap.size w w2) := hb2
  have HZ2 : Hid (w2.heap[w.heap.size]? = some (Obj.cells #[.string ⟨#[]⟩, .int .i64 0] 46 (0, 0))) := hz2
  clear erp hrp hat hw2 hbe hb2 hz2 cc HB HZ hmx hmy hs1 hmlen helen
  go_wp2_with (first | (go_at_call 75; fail))
  refine cr.mono ?_
  rintro ee w3 ⟨rfl, hbe⟩
  have hb3 : Below w.heap.size w w3 := HB2.out.trans (hbe.mono (Nat.le_of_lt hs2))
  have hz3 : w3.heap[w.heap.size]? = some (Obj.cells #[.string ⟨#[]⟩, .int .i64 0] 46 (0, 0)) := (hbe.block _ hs2).trans HZ2.out
  have k0 : w3.cell? ⟨w.heap.size, 0, none⟩ = some (.string ⟨#[]⟩) := by simp [World.cell?, hz3]
  have k1 : w3.cell? ⟨w.heap.size, 1, none⟩ = some (.int .i64 0) := by simp [World.cell?, hz3]
  have f0 : w3.frozen? ⟨w.heap.size, 0, none⟩ = false := by simp [World.frozen?, hz3]
  have f1 : w3.frozen? ⟨w.heap.size, 1, none⟩ = false := by simp [World.frozen?, hz3]
  have HB3 : Hid (Below w.heap.size w w3) := hb3
  have HZ3 : Hid (w3.heap[w.heap.size]? = some (Obj.cells #[.string ⟨#[]⟩, .int .i64 0] 46 (0, 0))) := hz3
  clear hbe hb3 hz3 cr HB2 HZ2
  go_wp2
  refine bodyPost_ret (results_cell_row rfl _ _ w.heap.size 46 _ (0, 0) _ rfl (heap_two HZ3.out _ _) Tryz.underlying46 rfl (by kernel_rfl)) rfl ?_
  obtain ⟨hT, hd0, hd1, hJ⟩ := HT.out
  refine ⟨d0, J, hT, hd0, hd1, hJ, ?_, (HB3.out.setCell (Nat.le_refl _) _).setCell (Nat.le_refl _) _⟩
  have ex : x + 1 = (Lib.nDigits d0 : Int) + (J : Int) - 400 := by have := HX.out; omega
  rw [ex]
  rfl
end Go.Proofs.YtellndmbllmjgaaGreatDoor
