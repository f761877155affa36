/- The walk of ftoa64 and FormatFloat, at a float above 0, 'e', the fewest digits. -/
import Derived.Test.YtellndmbllmjgaaGreatDoorFeA
import Derived.Deep.RegionWith
import Derived.Test.YtellndmbllmjgaaGreatDoorFlA
import Derived.OwnWalk
set_option linter.unusedVariables false
namespace Go.Proofs.YtellndmbllmjgaaGreatDoor
open Go.RowKit Go.Shelf Go.Sort Fs

theorem Tryz.tobits (b : Nat) (w : World) : (callFunc 212 #[.float .f64 b]).run Tryz.prog w = .ok (.value (.int .u64 b)) w := by
  rw [run_callFunc_extern (P := Tryz.prog) (f := 212) (e := Extern.MathFloatBits.float64bits) Tryz.func212 (by kernel_rfl) (by kernel_rfl) (by kernel_rfl) (by kernel_rfl)]
  rfl
/-- 'var buf [32]byte', as the walk lays it. -/
def zeros32 : Array Value := #[Value.int .u8 0, Value.int .u8 0, Value.int .u8 0, Value.int .u8 0, Value.int .u8 0, Value.int .u8 0, Value.int .u8 0, Value.int .u8 0, Value.int .u8 0, Value.int .u8 0, Value.int .u8 0, Value.int .u8 0, Value.int .u8 0, Value.int .u8 0, Value.int .u8 0, Value.int .u8 0, Value.int .u8 0, Value.int .u8 0, Value.int .u8 0, Value.int .u8 0, Value.int .u8 0, Value.int .u8 0, Value.int .u8 0, Value.int .u8 0, Value.int .u8 0, Value.int .u8 0, Value.int .u8 0, Value.int .u8 0, Value.int .u8 0, Value.int .u8 0, Value.int .u8 0, Value.int .u8 0]
theorem zeros32_eq : zeros32 = Array.replicate 32 (Value.int .u8 0) := rfl
theorem zeros32_at (j : Nat) (h : j < 32) : zeros32[j]? = some (.int .u8 0) := by
  rw [zeros32_eq, Array.getElem?_replicate, if_pos h]
set_option maxRecDepth 100000 in
set_option maxHeartbeats 1000000 in
theorem ftoa_norm (r M e sh m : Nat) (z ex mt E : Int) (v : Value) (base : Nat) (hz : (r : Int) = z) (w : World)
    (t0 : (z / 9223372036854775808 != 0) = false)
    (hex : bits .and .i64 (wrap64 (z / 4503599627370496)) 2047 = ex) (hex1 : (ex == 2047) = false) (hex0 : (ex == 0) = false) (hexa : 0 ≤ ex) (hexb : ex ≤ 2046)
    (hmt : bits .and .u64 z 4503599627370495 = mt) (hor : bits .or .u64 mt 4503599627370496 = (M : Int)) (hM0 : ((M : Int) == 0) = false) (hMp : 0 < M)
    (hsh0 : 11 ≤ sh) (hsh1 : sh ≤ 63) (hm : IntKind.u64.wrap ((M : Int) * 2 ^ sh) = (m : Int)) (hE : ex + -1023 - (sh : Int) - 52 = E)
    (c215 : ∀ w, Calls Tryz.prog 216 #[.int .u64 (M : Int)] w fun e w' => e = .returned (.int .i64 (64 - (sh : Int))) ∧ w' = w)
    (c224 : ∀ w, Laid w → Calls Tryz.prog 225 #[.int .u64 (m : Int), .int .i64 E] w fun r w' => (∃ d i : Nat, Short M e d i ∧ d < 1152921504606846976 ∧ i < 800 ∧ r = .returned (.tuple #[.int .u64 (d : Int), .int .i64 ((i : Int) - 400)])) ∧ Below w.heap.size w w')
    (hlaid : Laid w) (hown : w.ownsRow base 5 1 v 0 []) (hb : base ≤ w.heap.size) :
    Calls Tryz.prog 165 #[v, .float .f64 r, .int .u8 101, .int .i64 (-1)] w fun rr w' => ∃ v' d0 J, Fs.Told M e d0 J ∧ 0 < d0 ∧ d0 < 1152921504606846976 ∧ J < 1000 ∧ rr = .returned v' ∧ w'.ownsRow base 5 1 v' (fmtS (decN d0) ((Lib.nDigits d0 : Int) + (J : Int) - 401)).length ((fmtS (decN d0) ((Lib.nDigits d0 : Int) + (J : Int) - 401)).map bv) ∧ Below base w w' := by
  have x1 : ∀ w, (callFunc 212 #[.float .f64 r]).run Tryz.prog w = .ok (.value (.int .u64 z)) w := fun w => by rw [Tryz.tobits, hz]
  have hs : 64 - (64 - (sh : Int)) = (sh : Int) := by omega
  have HLA : Hid (Laid w) := hlaid
  clear hz hlaid
  go_enter Tryz.func165, Tryz.ntmps165
  go_wp2_with (first | go_in)
  go_quiet (fail)
  go_wp2_with (first | (go_at_call 216; refine (c215 _).mono ?_; rintro e w' ⟨rfl, rfl⟩) | (go_at_call 225; fail))
  have hbz : Below w.heap.size w ((w.drewN nq).alloc (.cells zeros32 234)) := (below_drewN (Below.refl _ _)).alloc (Nat.le_refl _) _
  have hzb : ((w.drewN nq).alloc (.cells zeros32 234)).heap[w.heap.size]? = some (Obj.cells zeros32 234 (0, 0)) := heap_alloc_new (w.drewN nq) (.cells zeros32 234)
  have hzs : ((w.drewN nq).alloc (.cells zeros32 234)).heap.size = w.heap.size + 1 := by simp
  obtain ⟨W0, hW0⟩ : ∃ W0, W0 = (w.drewN nq).alloc (.cells zeros32 234) := ⟨_, rfl⟩
  rw [← hW0] at hbz hzb hzs
  change Calls _ _ _ ((w.drewN nq).alloc (.cells zeros32 234)) _
  rw [← hW0]
  clear hW0
  refine (c224 W0 (HLA.out.below hbz)).mono ?_
  rintro ee w1 ⟨⟨d, i, hS, hd, hi, rfl⟩, hbel⟩
  rw [hzs] at hbel
  have hb1 : Below w.heap.size w w1 := hbz.trans (hbel.mono (by omega))
  have hz1 : w1.heap[w.heap.size]? = some (Obj.cells zeros32 234 (0, 0)) := (hbel.block _ (by omega)).trans hzb
  obtain ⟨d0, t, hdt, hd0⟩ := strip d d (Nat.le_refl _) hS.pos
  have hd00 : 0 < d0 := by
    rcases Nat.eq_zero_or_pos d0 with h | h
    · rw [h] at hd0; simp at hd0
    · exact h
  have hnd : Lib.nDigits d = Lib.nDigits d0 + t := by rw [hdt]; exact nDigits_shift d0 hd00 t
  have hn19 : Lib.nDigits d ≤ 19 := nDigits_le d 19 (by omega) (by omega)
  obtain ⟨K, hK⟩ : ∃ K, Lib.nDigits d0 = K + 1 := ⟨Lib.nDigits d0 - 1, by have := Lib.nDigits_pos d0; omega⟩
  have c218 := Tryz.internal_strconv_numDigits d hS.pos (by omega) w1.drew (show Lib.TabIs Tryz.prog w1 _ _ _ from (HLA.out.below hb1).p10)
  have hHo : Holds encB w1 w.heap.size 0 (Array.replicate (Lib.nDigits d) (0 : UInt8)) := by
    intro j hj
    rw [Array.size_replicate] at hj
    have h32 : zeros32[j]? = some (.int .u8 0) := zeros32_at j (by omega)
    refine ⟨?_, ?_⟩
    · simp only [World.cell?, hz1, Nat.zero_add]
      rw [h32]
      have : (Array.replicate (Lib.nDigits d) (0 : UInt8))[j]! = 0 := by simp [hj]
      rw [this]
      rfl
    · simp [World.frozen?, hz1]
  have c217 := setDigits_any w.heap.size d d0 t (Lib.nDigits d) ((i : Int) - 400) hS.pos (by omega) hdt hd0 rfl (by omega) (by omega) (by omega) (by omega) w1.drew hHo
  generalize Lib.nDigits d = nd at *
  obtain ⟨x, hx⟩ : ∃ x : Int, x = (nd : Int) + (i : Int) - 401 := ⟨_, rfl⟩
  have ekt : ((nd - t : Nat) : Int) = (K : Int) + 1 := by omega
  have edp : (nd : Int) + ((i : Int) - 400) = x + 1 := by omega
  rw [ekt, edp] at c217
  have hK31 : K ≤ 30 := by omega
  have hxa : -1000 < x := by omega
  have hxb : x < 1000 := by omega
  have HX : Hid (x = (nd : Int) + (i : Int) - 401) := hx
  clear hx ekt edp
  have HS : Hid (Short M e d i) := hS
  have HDT : Hid (d = d0 * 10 ^ t) := hdt
  have HND : Hid (nd = Lib.nDigits d0 + t) := hnd
  have HK : Hid (Lib.nDigits d0 = K + 1) := hK
  clear hdt hnd hK
  have HB : Hid (Below w.heap.size w w1) := hb1
  have HZ : Hid (w1.heap[w.heap.size]? = some (Obj.cells zeros32 234 (0, 0))) := hz1
  have HHo : Hid (Holds encB w1.drew w.heap.size 0 (Array.replicate nd (0 : UInt8))) := hHo
  clear hS hb1 hz1 hbel hzb hbz hzs hHo
  go_wp2_with (first | (go_at_call 215; fail))
  go_region_with (first | (go_at_call 219; go_fit c218; rintro e w' ⟨rfl, rfl⟩) | (go_at_call 218; go_fit c217; rintro e w' ⟨rfl, n, v', dk, rfl, hF⟩))
  go_wp2_with (first | (go_at_call 215; fail))
  have hb2 : Below w.heap.size w ((putRow encB w1.drew w.heap.size 0 dk).drewN n) := below_drewN (below_putRow dk HB.out.drew (Nat.le_refl _))
  obtain ⟨C, hC⟩ := heap_putRow (w := w1.drew) dk HZ.out
  have hC2 : ((putRow encB w1.drew w.heap.size 0 dk).drewN n).heap[w.heap.size]? = some (Obj.cells C 234 (0, 0)) := hC
  have hnd' : nd = K + 1 + t := by have := HND.out; have := HK.out; omega
  have hcs : ∀ (j : Nat) c, (decN d0)[j]? = some c → C[j]? = some (bv c) := by
    intro j c hj
    have hjl : j < K + 1 := by
      have := (List.getElem?_eq_some_iff.1 hj).1
      rw [decN_length, HK.out] at this
      exact this
    rw [decN_at d0 j (by rw [HK.out]; exact hjl)] at hj
    have h1 := cell?_putRow encB w1.drew w.heap.size 0 _ dk HHo.out (by rw [hF.size, Array.size_replicate]) j (by rw [hF.size]; omega)
    have h2 : (putRow encB w1.drew w.heap.size 0 dk).cell? ⟨w.heap.size, 0 + j, none⟩ = C[j]? := by
      simp [World.cell?, hC]
    rw [← h2, h1, hF.done j (Nat.zero_le _) (by omega)]
    have h3 : encB (Lib.dg d (nd - 1 - j)) = bv c := by
      show Value.int .u8 _ = Value.int .u8 _
      rw [dg_toNat, HDT.out, hnd', digit_shift d0 t (K + 1) j hjl]
      rw [HK.out] at hj
      rw [Option.some.inj hj]
    rw [h3]
  refine (fmtE_any base w.heap.size K v C (0, 0) (decN d0) (by rw [decN_length, HK.out]) (by omega) x hxa hxb _ (ownsRow_later hown hb2) (Nat.le_trans hb hb2.size) hC2 hcs).mono ?_
  rintro ee w3 ⟨v', rfl, hown3, hbe⟩
  go_wp2
  go_ret
  have hxe : x = (Lib.nDigits d0 : Int) + ((i + t : Nat) : Int) - 401 := by have := HX.out; have := HK.out; omega
  rw [hxe] at hown3
  have hd0l : d0 ≤ d := by
    have := HDT.out
    have h1 : d0 * 1 ≤ d0 * 10 ^ t := Nat.mul_le_mul_left _ (Nat.pow_pos (by omega))
    omega
  exact ⟨_, d0, i + t, told_of_short hMp HS.out HDT.out hd0, hd00, by omega, by omega, rfl, hown3, (hb2.mono hb).trans hbe⟩
end Go.Proofs.YtellndmbllmjgaaGreatDoor
/- The walk of ftoa64, of the least floats. -/
set_option linter.unusedVariables false
namespace Go.Proofs.YtellndmbllmjgaaGreatDoor
open Go.RowKit Go.Shelf Go.Sort Fs

set_option maxRecDepth 100000 in
set_option maxHeartbeats 1000000 in
theorem ftoa_sub (r M e sh m : Nat) (z ex mt E : Int) (v : Value) (base : Nat) (hz : (r : Int) = z) (w : World)
    (t0 : (z / 9223372036854775808 != 0) = false)
    (hex : bits .and .i64 (wrap64 (z / 4503599627370496)) 2047 = ex) (hex1 : (ex == 2047) = false) (hex0 : (ex == 0) = true) (hexa : 0 ≤ ex) (hexb : ex ≤ 2046)
    (hmt : bits .and .u64 z 4503599627370495 = (M : Int)) (hM0 : ((M : Int) == 0) = false) (hMp : 0 < M)
    (hsh0 : 11 ≤ sh) (hsh1 : sh ≤ 63) (hm : IntKind.u64.wrap ((M : Int) * 2 ^ sh) = (m : Int)) (hE : ex + 1 + -1023 - (sh : Int) - 52 = E)
    (c215 : ∀ w, Calls Tryz.prog 216 #[.int .u64 (M : Int)] w fun e w' => e = .returned (.int .i64 (64 - (sh : Int))) ∧ w' = w)
    (c224 : ∀ w, Laid w → Calls Tryz.prog 225 #[.int .u64 (m : Int), .int .i64 E] w fun r w' => (∃ d i : Nat, Short M e d i ∧ d < 1152921504606846976 ∧ i < 800 ∧ r = .returned (.tuple #[.int .u64 (d : Int), .int .i64 ((i : Int) - 400)])) ∧ Below w.heap.size w w')
    (hlaid : Laid w) (hown : w.ownsRow base 5 1 v 0 []) (hb : base ≤ w.heap.size) :
    Calls Tryz.prog 165 #[v, .float .f64 r, .int .u8 101, .int .i64 (-1)] w fun rr w' => ∃ v' d0 J, Fs.Told M e d0 J ∧ 0 < d0 ∧ d0 < 1152921504606846976 ∧ J < 1000 ∧ rr = .returned v' ∧ w'.ownsRow base 5 1 v' (fmtS (decN d0) ((Lib.nDigits d0 : Int) + (J : Int) - 401)).length ((fmtS (decN d0) ((Lib.nDigits d0 : Int) + (J : Int) - 401)).map bv) ∧ Below base w w' := by
  have x1 : ∀ w, (callFunc 212 #[.float .f64 r]).run Tryz.prog w = .ok (.value (.int .u64 z)) w := fun w => by rw [Tryz.tobits, hz]
  have hs : 64 - (64 - (sh : Int)) = (sh : Int) := by omega
  have HLA : Hid (Laid w) := hlaid
  clear hz hlaid
  go_enter Tryz.func165, Tryz.ntmps165
  go_wp2_with (first | go_in)
  go_quiet (fail)
  go_wp2_with (first | (go_at_call 216; refine (c215 _).mono ?_; rintro e w' ⟨rfl, rfl⟩) | (go_at_call 225; fail))
  have hbz : Below w.heap.size w ((w.drewN nq).alloc (.cells zeros32 234)) := (below_drewN (Below.refl _ _)).alloc (Nat.le_refl _) _
  have hzb : ((w.drewN nq).alloc (.cells zeros32 234)).heap[w.heap.size]? = some (Obj.cells zeros32 234 (0, 0)) := heap_alloc_new (w.drewN nq) (.cells zeros32 234)
  have hzs : ((w.drewN nq).alloc (.cells zeros32 234)).heap.size = w.heap.size + 1 := by simp
  obtain ⟨W0, hW0⟩ : ∃ W0, W0 = (w.drewN nq).alloc (.cells zeros32 234) := ⟨_, rfl⟩
  rw [← hW0] at hbz hzb hzs
  change Calls _ _ _ ((w.drewN nq).alloc (.cells zeros32 234)) _
  rw [← hW0]
  clear hW0
  refine (c224 W0 (HLA.out.below hbz)).mono ?_
  rintro ee w1 ⟨⟨d, i, hS, hd, hi, rfl⟩, hbel⟩
  rw [hzs] at hbel
  have hb1 : Below w.heap.size w w1 := hbz.trans (hbel.mono (by omega))
  have hz1 : w1.heap[w.heap.size]? = some (Obj.cells zeros32 234 (0, 0)) := (hbel.block _ (by omega)).trans hzb
  obtain ⟨d0, t, hdt, hd0⟩ := strip d d (Nat.le_refl _) hS.pos
  have hd00 : 0 < d0 := by
    rcases Nat.eq_zero_or_pos d0 with h | h
    · rw [h] at hd0; simp at hd0
    · exact h
  have hnd : Lib.nDigits d = Lib.nDigits d0 + t := by rw [hdt]; exact nDigits_shift d0 hd00 t
  have hn19 : Lib.nDigits d ≤ 19 := nDigits_le d 19 (by omega) (by omega)
  obtain ⟨K, hK⟩ : ∃ K, Lib.nDigits d0 = K + 1 := ⟨Lib.nDigits d0 - 1, by have := Lib.nDigits_pos d0; omega⟩
  have c218 := Tryz.internal_strconv_numDigits d hS.pos (by omega) w1.drew (show Lib.TabIs Tryz.prog w1 _ _ _ from (HLA.out.below hb1).p10)
  have hHo : Holds encB w1 w.heap.size 0 (Array.replicate (Lib.nDigits d) (0 : UInt8)) := by
    intro j hj
    rw [Array.size_replicate] at hj
    have h32 : zeros32[j]? = some (.int .u8 0) := zeros32_at j (by omega)
    refine ⟨?_, ?_⟩
    · simp only [World.cell?, hz1, Nat.zero_add]
      rw [h32]
      have : (Array.replicate (Lib.nDigits d) (0 : UInt8))[j]! = 0 := by simp [hj]
      rw [this]
      rfl
    · simp [World.frozen?, hz1]
  have c217 := setDigits_any w.heap.size d d0 t (Lib.nDigits d) ((i : Int) - 400) hS.pos (by omega) hdt hd0 rfl (by omega) (by omega) (by omega) (by omega) w1.drew hHo
  generalize Lib.nDigits d = nd at *
  obtain ⟨x, hx⟩ : ∃ x : Int, x = (nd : Int) + (i : Int) - 401 := ⟨_, rfl⟩
  have ekt : ((nd - t : Nat) : Int) = (K : Int) + 1 := by omega
  have edp : (nd : Int) + ((i : Int) - 400) = x + 1 := by omega
  rw [ekt, edp] at c217
  have hK31 : K ≤ 30 := by omega
  have hxa : -1000 < x := by omega
  have hxb : x < 1000 := by omega
  have HX : Hid (x = (nd : Int) + (i : Int) - 401) := hx
  clear hx ekt edp
  have HS : Hid (Short M e d i) := hS
  have HDT : Hid (d = d0 * 10 ^ t) := hdt
  have HND : Hid (nd = Lib.nDigits d0 + t) := hnd
  have HK : Hid (Lib.nDigits d0 = K + 1) := hK
  clear hdt hnd hK
  have HB : Hid (Below w.heap.size w w1) := hb1
  have HZ : Hid (w1.heap[w.heap.size]? = some (Obj.cells zeros32 234 (0, 0))) := hz1
  have HHo : Hid (Holds encB w1.drew w.heap.size 0 (Array.replicate nd (0 : UInt8))) := hHo
  clear hS hb1 hz1 hbel hzb hbz hzs hHo
  go_wp2_with (first | (go_at_call 215; fail))
  go_region_with (first | (go_at_call 219; go_fit c218; rintro e w' ⟨rfl, rfl⟩) | (go_at_call 218; go_fit c217; rintro e w' ⟨rfl, n, v', dk, rfl, hF⟩))
  go_wp2_with (first | (go_at_call 215; fail))
  have hb2 : Below w.heap.size w ((putRow encB w1.drew w.heap.size 0 dk).drewN n) := below_drewN (below_putRow dk HB.out.drew (Nat.le_refl _))
  obtain ⟨C, hC⟩ := heap_putRow (w := w1.drew) dk HZ.out
  have hC2 : ((putRow encB w1.drew w.heap.size 0 dk).drewN n).heap[w.heap.size]? = some (Obj.cells C 234 (0, 0)) := hC
  have hnd' : nd = K + 1 + t := by have := HND.out; have := HK.out; omega
  have hcs : ∀ (j : Nat) c, (decN d0)[j]? = some c → C[j]? = some (bv c) := by
    intro j c hj
    have hjl : j < K + 1 := by
      have := (List.getElem?_eq_some_iff.1 hj).1
      rw [decN_length, HK.out] at this
      exact this
    rw [decN_at d0 j (by rw [HK.out]; exact hjl)] at hj
    have h1 := cell?_putRow encB w1.drew w.heap.size 0 _ dk HHo.out (by rw [hF.size, Array.size_replicate]) j (by rw [hF.size]; omega)
    have h2 : (putRow encB w1.drew w.heap.size 0 dk).cell? ⟨w.heap.size, 0 + j, none⟩ = C[j]? := by
      simp [World.cell?, hC]
    rw [← h2, h1, hF.done j (Nat.zero_le _) (by omega)]
    have h3 : encB (Lib.dg d (nd - 1 - j)) = bv c := by
      show Value.int .u8 _ = Value.int .u8 _
      rw [dg_toNat, HDT.out, hnd', digit_shift d0 t (K + 1) j hjl]
      rw [HK.out] at hj
      rw [Option.some.inj hj]
    rw [h3]
  refine (fmtE_any base w.heap.size K v C (0, 0) (decN d0) (by rw [decN_length, HK.out]) (by omega) x hxa hxb _ (ownsRow_later hown hb2) (Nat.le_trans hb hb2.size) hC2 hcs).mono ?_
  rintro ee w3 ⟨v', rfl, hown3, hbe⟩
  go_wp2
  go_ret
  have hxe : x = (Lib.nDigits d0 : Int) + ((i + t : Nat) : Int) - 401 := by have := HX.out; have := HK.out; omega
  rw [hxe] at hown3
  have hd0l : d0 ≤ d := by
    have := HDT.out
    have h1 : d0 * 1 ≤ d0 * 10 ^ t := Nat.mul_le_mul_left _ (Nat.pow_pos (by omega))
    omega
  exact ⟨_, d0, i + t, told_of_short hMp HS.out HDT.out hd0, hd00, by omega, by omega, rfl, hown3, (hb2.mono hb).trans hbe⟩
end Go.Proofs.YtellndmbllmjgaaGreatDoor
/- ftoa64, at every float above 0. -/
set_option linter.unusedVariables false
namespace Go.Proofs.YtellndmbllmjgaaGreatDoor
open Go.RowKit Go.Shelf Go.Sort Fs Fl

theorem and_52 (r : Nat) (h : r < 18446744073709551616) : bits .and .u64 (r : Int) 4503599627370495 = ((r % 4503599627370496 : Nat) : Int) := by
  refine (u64_and_nat r 4503599627370495 h (by omega)).trans ?_
  have e : r &&& (2 ^ 52 - 1) = r % 2 ^ 52 := Nat.and_two_pow_sub_one_eq_mod _ _
  exact congrArg Int.ofNat e
theorem or_52 (m : Nat) (h : m < 4503599627370496) : bits .or .u64 (m : Int) 4503599627370496 = ((4503599627370496 + m : Nat) : Int) := by
  refine (u64_or_nat m 4503599627370496 (by omega) (by omega)).trans ?_
  have e : 2 ^ 52 * 1 + m = 2 ^ 52 * 1 ||| m := Nat.two_pow_add_eq_or_of_lt h 1
  rw [Nat.or_comm] at e
  exact congrArg Int.ofNat e.symm
theorem and_11i (q : Nat) (h : q < 2048) : bits .and .i64 (wrap64 (q : Int)) 2047 = (q : Int) := by
  rw [wrap64_small q (by omega)]
  have := bits_mask .i64 63 (by decide) (fun n h0 h1 => by rw [IntKind.wrap_i64]; omega) 11 (by decide) (q : Int) (by omega) (by omega)
  refine this.trans ?_
  omega
/-- A number's bits. -/
theorem bitLen_bounds (M : Nat) (h0 : M ≠ 0) (h : M < 18446744073709551616) : 1 ≤ Lib.bitLen M ∧ 2 ^ (Lib.bitLen M - 1) ≤ M ∧ M < 2 ^ Lib.bitLen M := Lib.bitLenAux_bounds 64 M (by omega) h0
theorem magR_pos {r : Nat} (h : 0 < r) : 0 < magR r := by
  rcases Nat.eq_zero_or_pos (magR r) with h1 | h1
  · have := magR_zero.1 h1
    omega
  · exact h1
theorem exp_sub (r : Nat) (h : r < 4503599627370496) : expR r = 0 ∧ r / 4503599627370496 = 0 := by
  have : r / 4503599627370496 = 0 := Nat.div_eq_of_lt h
  exact ⟨by unfold expR; rw [this], this⟩
theorem exp_norm (r : Nat) (h : ¬ r < 4503599627370496) (h1 : r < 9218868437227405312) : 1 ≤ r / 4503599627370496 ∧ r / 4503599627370496 ≤ 2046 ∧ expR r + 1 = r / 4503599627370496 := by
  have a : 1 ≤ r / 4503599627370496 := by omega
  have b : r / 4503599627370496 ≤ 2046 := by omega
  exact ⟨a, b, by unfold expR; omega⟩
theorem exp_lt (r : Nat) (h1 : r < 9218868437227405312) : expR r < 2046 := by
  have b : r / 4503599627370496 ≤ 2046 := by omega
  unfold expR
  omega
theorem top_zero (r : Nat) (h1 : r < 9218868437227405312) : ((r : Int) / 9223372036854775808 != 0) = false := by
  rw [bne_eq_false_iff_eq]
  omega
theorem exp_and (r : Nat) (h1 : r < 9218868437227405312) : bits .and .i64 (wrap64 ((r : Int) / 4503599627370496)) 2047 = ((r / 4503599627370496 : Nat) : Int) := by
  have hq : (r : Int) / 4503599627370496 = ((r / 4503599627370496 : Nat) : Int) := rfl
  rw [hq]
  exact and_11i _ (by omega)
theorem int_ne (a : Nat) (b : Int) (h : (a : Int) ≠ b) : ((a : Int) == b) = false := by
  rw [beq_eq_false_iff_ne]
  exact h
set_option maxHeartbeats 1000000 in
theorem ftoa_any (r : Nat) (h0 : 0 < r) (h1 : r < 9218868437227405312) (v : Value) (base : Nat) (w : World) (hlaid : Laid w) (hown : w.ownsRow base 5 1 v 0 []) (hb : base ≤ w.heap.size) :
    Calls Tryz.prog 165 #[v, .float .f64 r, .int .u8 101, .int .i64 (-1)] w fun rr w' => ∃ v' d0 J, Fs.Told (magR r) (expR r) d0 J ∧ 0 < d0 ∧ d0 < 1152921504606846976 ∧ J < 1000 ∧ rr = .returned v' ∧ w'.ownsRow base 5 1 v' (fmtS (decN d0) ((Lib.nDigits d0 : Int) + (J : Int) - 401)).length ((fmtS (decN d0) ((Lib.nDigits d0 : Int) + (J : Int) - 401)).map bv) ∧ Below base w w' := by
  have hM := magR_pos h0
  have hMl := magR_lt r
  obtain ⟨b1, b2, b3⟩ := bitLen_bounds (magR r) (by omega) (by omega)
  have hL53 : Lib.bitLen (magR r) ≤ 53 := by
    rcases Nat.lt_or_ge 53 (Lib.bitLen (magR r)) with h | h
    · have : 2 ^ 53 ≤ 2 ^ (Lib.bitLen (magR r) - 1) := Nat.pow_le_pow_right (by omega) (by omega)
      omega
    · exact h
  obtain ⟨sh, hsh⟩ : ∃ sh, sh = 64 - Lib.bitLen (magR r) := ⟨_, rfl⟩
  have hLs : Lib.bitLen (magR r) = 64 - sh := by omega
  have hp : 2 ^ (64 - sh) * 2 ^ sh = 18446744073709551616 := by rw [← Nat.pow_add, show 64 - sh + sh = 64 by omega]
  have hp1 : 2 ^ (64 - sh - 1) * 2 ^ sh = 9223372036854775808 := by rw [← Nat.pow_add, show 64 - sh - 1 + sh = 63 by omega]
  rw [hLs] at b2 b3
  have hm0 : 9223372036854775808 ≤ magR r * 2 ^ sh := by rw [← hp1]; exact Nat.mul_le_mul_right _ b2
  have hm1 : magR r * 2 ^ sh + 2 ^ sh ≤ 18446744073709551616 := by
    rw [← hp, ← Nat.succ_mul]
    exact Nat.mul_le_mul_right _ b3
  have hmI : IntKind.u64.wrap ((magR r : Int) * 2 ^ sh) = ((magR r * 2 ^ sh : Nat) : Int) := by
    have : (magR r : Int) * 2 ^ sh = ((magR r * 2 ^ sh : Nat) : Int) := by rw [Int.natCast_mul, Int.natCast_pow]; rfl
    have hps := Nat.two_pow_pos sh
    rw [this, IntKind.wrap_u64]
    omega
  have he : expR r < 2046 := exp_lt r h1
  have hs0 : 11 ≤ sh := by omega
  have hs1 : sh ≤ 63 := by omega
  have hn : magR r < 4503599627370496 → expR r = 0 := by
    intro h
    rcases Nat.eq_zero_or_pos (expR r) with h2 | h2
    · exact h2
    · have := magR_ge (a := r) (by omega)
      omega
  have hn2 : 4503599627370496 ≤ magR r ↔ sh = 11 := by
    constructor
    · intro h
      rcases Nat.lt_or_ge 52 (64 - sh) with h2 | h2
      · omega
      · have : 2 ^ (64 - sh) ≤ 2 ^ 52 := Nat.pow_le_pow_right (by omega) h2
        omega
    · intro h
      rw [h] at b2
      exact b2
  have c215 : ∀ w, Calls Tryz.prog 216 #[.int .u64 (magR r : Int)] w fun e w' => e = .returned (.int .i64 (64 - (sh : Int))) ∧ w' = w := by
    intro w
    refine (Tryz.bits_Len64 (magR r : Int) w (by omega) (by omega)).mono ?_
    rintro e w' ⟨rfl, rfl⟩
    refine ⟨?_, rfl⟩
    have : ((Lib.bitLen (magR r : Int).toNat : Nat) : Int) = 64 - (sh : Int) := by
      rw [Int.toNat_natCast, hLs]
      omega
    rw [this]
  have c224 := fun (w : World) (hw : Laid w) => shortFloat_any (magR r) (expR r) sh hM he hn hs0 hs1 hn2 hm0 hm1 w hw.size hw.pow
  have t0 := top_zero r h1
  have hex := exp_and r h1
  have hM0 := int_ne (magR r) 0 (by omega)
  clear b1 b2 b3 hp hp1 hLs hsh hm0 hm1 hn hn2 he hL53
  by_cases hr : r < 4503599627370496
  · have hmr : magR r = r := if_pos hr
    obtain ⟨her, hqr⟩ := exp_sub r hr
    have h5 : bits .and .u64 (r : Int) 4503599627370495 = (magR r : Int) := by rw [and_52 r (by omega), hmr, Nat.mod_eq_of_lt hr]
    rw [hqr] at hex
    exact ftoa_sub r (magR r) (expR r) sh (magR r * 2 ^ sh) r 0 0 ((expR r : Int) - 1074 - (sh : Int)) v base rfl w t0 hex rfl rfl (by omega) (by omega) h5 hM0 hM hs0 hs1 hmI (by rw [her]; omega) c215 c224 hlaid hown hb
  · have hmr : magR r = 4503599627370496 + r % 4503599627370496 := if_neg hr
    obtain ⟨q1, q2, q3⟩ := exp_norm r hr h1
    have h5 := and_52 r (by omega)
    have h6 : bits .or .u64 ((r % 4503599627370496 : Nat) : Int) 4503599627370496 = (magR r : Int) := by rw [or_52 _ (Nat.mod_lt _ (by omega)), hmr]
    have h7 : ((r / 4503599627370496 : Nat) : Int) + -1023 - (sh : Int) - 52 = (expR r : Int) - 1074 - (sh : Int) := by omega
    have h8 := int_ne (r / 4503599627370496) 2047 (by omega)
    have h9 := int_ne (r / 4503599627370496) 0 (by omega)
    have h10 : ((r / 4503599627370496 : Nat) : Int) ≤ 2046 := by omega
    exact ftoa_norm r (magR r) (expR r) sh (magR r * 2 ^ sh) r ((r / 4503599627370496 : Nat) : Int) ((r % 4503599627370496 : Nat) : Int) ((expR r : Int) - 1074 - (sh : Int)) v base rfl w t0 hex h8 h9 (by omega) h10 h5 h6 hM0 hM hs0 hs1 hmI h7 c215 c224 hlaid hown hb
end Go.Proofs.YtellndmbllmjgaaGreatDoor
/- FormatFloat, at every float above 0. -/
set_option linter.unusedVariables false
namespace Go.Proofs.YtellndmbllmjgaaGreatDoor
open Go.RowKit Go.Shelf Go.Sort Fs Fl

/-- Bytes as a text. -/
def txt (l : List Nat) : ByteArray := ⟨(l.map UInt8.ofNat).toArray⟩
theorem conv_row {W : World} {base : Nat} {g cap : Nat} {bs : List Nat} (hb : ∀ b ∈ bs, b < 256) (h : W.ownsRow base 5 1 (.slice (some ⟨g, 0, none⟩) bs.length cap) bs.length (bs.map bv)) :
    (convert 92 9 (.slice (some ⟨g, 0, none⟩) bs.length cap)).run Tryz.prog W = .ok (.string (txt bs)) W := by
  have hc := h.cells (g := g) rfl
  have := run_convert_bytes_back (P := Tryz.prog) W 92 9 5 ⟨g, 0, none⟩ cap (bs.map UInt8.ofNat) Tryz.underlying92 Tryz.underlying5 Tryz.underlying9 (fun j hj => by
    rw [List.length_map] at hj
    have h1 := hc j (bv bs[j]) (by simp [hj])
    rw [h1]
    have h2 : bs[j] < 256 := hb _ (List.getElem_mem hj)
    simp [bv, List.getElem_map, UInt8.toNat_ofNat', Nat.mod_eq_of_lt h2])
  simpa [txt] using this
theorem own_slice {W : World} {base n : Nat} {v : Value} {xs : List Value} (hn : 0 < n) (h : W.ownsRow base 5 1 v n xs) : ∃ g cap, v = .slice (some ⟨g, 0, none⟩) n cap := by
  rcases h.2 with ⟨_, h0⟩ | ⟨g, cap, _, hv, _⟩
  · omega
  · exact ⟨g, cap, hv⟩
theorem decN_lt (d : Nat) : ∀ b ∈ decN d, b < 58 := by
  intro b hb
  obtain ⟨j, hj, rfl⟩ := List.mem_iff_getElem.1 hb
  have h1 : (decN d)[j]? = some (decN d)[j] := List.getElem?_eq_getElem hj
  rw [decN_length] at hj
  rw [decN_at d j hj] at h1
  have : d / 10 ^ (Lib.nDigits d - 1 - j) % 10 < 10 := Nat.mod_lt _ (by omega)
  have := Option.some.inj h1
  omega
theorem fmtE_mem (c0 : Nat) (rest : List Nat) (neg : Bool) (a b : Nat) (h : b ∈ fmtE c0 rest neg a) : b = c0 ∨ b = 46 ∨ b ∈ rest ∨ b = 101 ∨ b = 45 ∨ b = 43 ∨ b ∈ expD a := by
  unfold fmtE at h
  cases rest <;> cases neg <;> simp at h <;> grind
theorem fmtS_lt (D : List Nat) (hD : ∀ b ∈ D, b < 58) (hne : D ≠ []) (x : Int) (h1 : -1000 < x) (h2 : x < 1000) : ∀ b ∈ fmtS D x, b < 256 := by
  obtain ⟨c0, rest, rfl⟩ : ∃ c0 rest, D = c0 :: rest := by
    cases D with
    | nil => exact absurd rfl hne
    | cons a l => exact ⟨a, l, rfl⟩
  have hc0 : c0 < 58 := hD c0 (by simp)
  have hr : ∀ b ∈ rest, b < 58 := fun b hb => hD b (by simp [hb])
  have hx : x.natAbs < 1000 := by omega
  have he : ∀ b ∈ expD x.natAbs, b < 256 := by
    intro b hb
    unfold expD at hb
    split at hb
    · simp at hb
      omega
    · split at hb
      · simp at hb
        omega
      · simp at hb
        omega
  intro b hb
  have h := fmtE_mem c0 rest (decide (x < 0)) x.natAbs b hb
  rcases h with h | h | h | h | h | h | h
  · omega
  · omega
  · have := hr b h
    omega
  · omega
  · omega
  · omega
  · exact he b h
theorem fmtS_pos (D : List Nat) (x : Int) : 0 < (fmtS D x).length := by
  unfold fmtS fmtE
  simp
set_option maxRecDepth 100000 in
set_option maxHeartbeats 1000000 in
theorem formatIn_any (r : Nat) (h0 : 0 < r) (h1 : r < 9218868437227405312) (w : World) (hlaid : Laid w) :
    Calls Tryz.prog 119 #[.float .f64 r, .int .u8 101, .int .i64 (-1), .int .i64 64] w fun rr w' => ∃ d0 J, Fs.Told (magR r) (expR r) d0 J ∧ 0 < d0 ∧ d0 < 1152921504606846976 ∧ J < 1000 ∧ rr = .returned (.string (txt (fmtS (decN d0) ((Lib.nDigits d0 : Int) + (J : Int) - 401)))) ∧ Below w.heap.size w w' := by
  obtain ⟨i0, hi, hz0, hz1, hz2⟩ := info_parts info5
  go_enter Tryz.func119, Tryz.ntmps119
  go_wp2_with (first | (refine wpList_make_own _ rfl _ _ 92 rfl w.heap.size 5 i0 (.int .u8 0) 1 Tryz.underlying92 hi hz0 hz1 .i64 .i64 _ 24 rfl rfl rfl (by rw [hz2]; omega) (by unfold maxLen; omega) (Nat.le_refl _) ?_; intro w1 hown0 hg0) | (go_at_call 165; fail))
  have hb1 : Below w.heap.size w w1 := (Below.refl _ _).grown hg0 (Nat.le_refl _) (fun k e => by cases e)
  refine (ftoa_any r h0 h1 _ w.heap.size w1 (hlaid.below hb1) hown0 hb1.size).mono ?_
  rintro ee w2 ⟨v', d0, J, hT, hd0, hd1, hJ, rfl, hown2, hb2⟩
  have hnl : Lib.nDigits d0 ≤ 19 := nDigits_le d0 19 (by omega) (by omega)
  have hnp := Lib.nDigits_pos d0
  have hne : decN d0 ≠ [] := fun h => by have := decN_length d0; rw [h] at this; simp at this; omega
  have hlt := fmtS_lt (decN d0) (decN_lt d0) hne ((Lib.nDigits d0 : Int) + (J : Int) - 401) (by omega) (by omega)
  have hpos := fmtS_pos (decN d0) ((Lib.nDigits d0 : Int) + (J : Int) - 401)
  have HT : Hid (Fs.Told (magR r) (expR r) d0 J) := hT
  have HN : Hid (0 < d0 ∧ d0 < 1152921504606846976 ∧ J < 1000) := ⟨hd0, hd1, hJ⟩
  have HF : Hid (∃ F, F = fmtS (decN d0) ((Lib.nDigits d0 : Int) + (J : Int) - 401)) := ⟨_, rfl⟩
  generalize hF : fmtS (decN d0) ((Lib.nDigits d0 : Int) + (J : Int) - 401) = F at *
  obtain ⟨g, cap, rfl⟩ := own_slice hpos hown2
  have hcv := conv_row hlt hown2
  have HFF : Hid (fmtS (decN d0) ((Lib.nDigits d0 : Int) + (J : Int) - 401) = F) := hF
  clear hT hd0 hd1 hJ hF hown2 hnl hnp hne HF
  go_wp2
  go_ret
  exact ⟨d0, J, HT.out, HN.out.1, HN.out.2.1, HN.out.2.2, by rw [HFF.out]; rfl, hb1.trans hb2⟩
/-- **strconv.FormatFloat, at every float above 0.** -/
theorem format_any (r : Nat) (h0 : 0 < r) (h1 : r < 9218868437227405312) (w : World) (hlaid : Laid w) :
    Calls Tryz.prog 73 #[.float .f64 r, .int .u8 101, .int .i64 (-1), .int .i64 64] w fun rr w' => ∃ d0 J, Fs.Told (magR r) (expR r) d0 J ∧ 0 < d0 ∧ d0 < 1152921504606846976 ∧ J < 1000 ∧ rr = .returned (.string (txt (fmtS (decN d0) ((Lib.nDigits d0 : Int) + (J : Int) - 401)))) ∧ Below w.heap.size w w' := by
  have c := formatIn_any r h0 h1 w hlaid
  have C := (show Hid _ from c)
  clear c
  go_enter Tryz.func73, Tryz.ntmps73
  go_wp2_with (first | (go_at_call 119; refine (formatIn_any r h0 h1 w hlaid).mono ?_; rintro ee w1 ⟨d0, J, hT, hd0, hd1, hJ, rfl, hb⟩))
  go_ret
  exact ⟨d0, J, hT, hd0, hd1, hJ, rfl, hb⟩
end Go.Proofs.YtellndmbllmjgaaGreatDoor
