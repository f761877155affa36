/- The law NumRead, at every text and every word. -/
import Derived.Test.YtellndmbllmjgaaGreatDoorCRi3x
import Derived.Test.YtellndmbllmjgaaGreatDoorRows
import Derived.Lib.LaidU8
import Derived.Lib.LaidU8T
import Derived.Lib.LaidRTabT
import Derived.LaidLaws
import Derived.Shelf.Vars
import GoSem.PinnedTables
set_option linter.unusedVariables false
namespace Go.Proofs.YtellndmbllmjgaaGreatDoor
open Go.RowKit Go.Shelf Go.Sort Go.Lib Fs Fl
set_option maxRecDepth 100000 in
set_option maxHeartbeats 1000000 in
theorem numRead_great (S : ByteArray) (N : Nat) (hN : S.size = N) (h : 4000 < N) (hm : N ≤ 9223372036854775807) (B : Int) (w : World) :
    Calls Tryz.prog 4 #[.string S, .int .u64 B] w fun e w' => e = .returned (.bool true) ∧ Below w.heap.size w w' := by
  have k1 : (4000 : Int) < (N : Int) := by omega
  go_enter Tryz.func4, Tryz.ntmps4
  go_wp2
  go_ret
  exact ⟨rfl, Below.refl _ _⟩
/-- What the law's calls answer, behind the document's units. -/
structure Reads (S : ByteArray) (B Y : Nat) (v1 v2 : Int) (v : Value) (w1 : World) : Prop where
  sl : ∃ sa sn sp, v = .slice sa sn sp
  p1 : ∀ W, Below w1.heap.size w1 W → Calls Tryz.prog 11 #[.string S] W fun e w' => ∃ x, ReadP (Ut.bytes (Ut.core S)) x ∧ e = .returned (.float .f64 x) ∧ Below W.heap.size W w'
  p2 : ∀ W, Below w1.heap.size w1 W → Calls Tryz.prog 12 #[v] W fun e w' => ∃ x, ReadD (Ut.bytes (Ut.core S)) x ∧ e = .returned (.float .f64 x) ∧ Below W.heap.size W w'
  p3 : ∀ W, Below w1.heap.size w1 W → Calls Tryz.prog 14 #[.string S] W fun e w' => ∃ x, (∃ c, FrontIs 1125899906842624 (Ut.bytes (Ut.core S)) x c) ∧ e = .returned (.float .f64 x) ∧ Below W.heap.size W w'
  p4 : ∀ W, Below w1.heap.size w1 W → Calls Tryz.prog 15 #[v] W fun e w' => ∃ x c, FrontIs 100000 (Ut.bytes (Ut.core S)) x c ∧ e = .returned (.float .f64 x) ∧ Below W.heap.size W w'
  p5 : ∀ W, Below w1.heap.size w1 W → Calls Tryz.prog 16 #[.string S, .float .f64 B] W fun e w' => ∃ x, IntIs (Ut.bytes (Ut.core S)) v1 x ∧ e = .returned (.float .f64 x) ∧ Below W.heap.size W w'
  p6 : ∀ W, Below w1.heap.size w1 W → Calls Tryz.prog 17 #[v, .float .f64 B] W fun e w' => ∃ x, IntIs (Ut.bytes (Ut.core S)) v1 x ∧ e = .returned (.float .f64 x) ∧ Below W.heap.size W w'
  p7 : ∀ W, Below w1.heap.size w1 W → Calls Tryz.prog 16 #[.string S, .float .f64 Y] W fun e w' => ∃ x, IntIs (Ut.bytes (Ut.core S)) v2 x ∧ e = .returned (.float .f64 x) ∧ Below W.heap.size W w'
  p8 : ∀ W, Below w1.heap.size w1 W → Calls Tryz.prog 17 #[v, .float .f64 Y] W fun e w' => ∃ x, IntIs (Ut.bytes (Ut.core S)) v2 x ∧ e = .returned (.float .f64 x) ∧ Below W.heap.size W w'
set_option maxRecDepth 100000 in
set_option maxHeartbeats 2000000 in
theorem numRead_walk (S : ByteArray) (N B Y : Nat) (hN : S.size = N) (hNb : N ≤ 4000) (hB : B < 18446744073709551616) (hY : floatOfInt .f64 ((B : Int) % 40) = Y) (w : World) (v1 v2 : Int)
    (cu : Calls Tryz.prog 10 #[.string S] w fun e w' => ∃ v, e = .returned v ∧ Below w.heap.size w w' ∧ Reads S B Y v1 v2 v w')
    (a1 : ∀ x y, ReadP (Ut.bytes (Ut.core S)) x → ReadD (Ut.bytes (Ut.core S)) y → Agree x y) (a2 : ∀ x y c c', FrontIs 1125899906842624 (Ut.bytes (Ut.core S)) x c → FrontIs 100000 (Ut.bytes (Ut.core S)) y c' → Agree x y) :
    Calls Tryz.prog 4 #[.string S, .int .u64 (B : Int)] w fun e w' => e = .returned (.bool true) ∧ Below w.heap.size w w' := by
  have x1 := Tryz.frombits7 (B : Int)
  rw [Int.toNat_natCast] at x1
  have A1 := (show Hid _ from a1)
  have A2 := (show Hid _ from a2)
  clear a1 a2
  go_enter Tryz.func4, Tryz.ntmps4
  go_wp2_with (first | (go_at_call 10; fail))
  refine cu.mono ?_
  rintro e w1 ⟨v, rfl, hw1, hR⟩
  obtain ⟨sa, sn, sp, rfl⟩ := hR.sl
  have HW1 : Hid (Below w.heap.size w w1) := hw1
  have P2 := (show Hid _ from hR.p2)
  have P3 := (show Hid _ from hR.p3)
  have P4 := (show Hid _ from hR.p4)
  have P5 := (show Hid _ from hR.p5)
  have P6 := (show Hid _ from hR.p6)
  have P7 := (show Hid _ from hR.p7)
  have P8 := (show Hid _ from hR.p8)
  have b1 := Below.refl w1.heap.size w1
  have q1 := hR.p1 _ b1
  clear hR cu hw1
  go_wp2_with (first | (go_at_call 11; fail))
  refine q1.mono ?_
  rintro e w2 ⟨x2, hx2, rfl, hw2⟩
  have b2 := b1.trans (hw2.mono b1.size)
  have q2 := P2.out _ b2
  have HX2 := (show Hid (ReadP (Ut.bytes (Ut.core S)) x2) from hx2)
  clear q1 P2 hx2 b1 hw2
  go_wp2_with (first | (go_at_call 12; fail))
  refine q2.mono ?_
  rintro e w3 ⟨x3, hx3, rfl, hw3⟩
  have b3 := b2.trans (hw3.mono b2.size)
  have s3 := same_agree x2 x3 (A1.out _ _ HX2.out hx3) w3
  have q3 := P3.out _ b3
  clear q2 P3 hx3 HX2 b2 hw3 A1
  go_wp2_with (first | (go_at_call 13; refine s3.mono ?_; rintro e w' ⟨rfl, hw'⟩; obtain rfl := hw'.symm; clear s3) | (go_at_call 14; fail))
  refine q3.mono ?_
  rintro e w4 ⟨x4, ⟨c4, hx4⟩, rfl, hw4⟩
  have b4 := b3.trans (hw4.mono b3.size)
  have q4 := P4.out _ b4
  have HX4 := (show Hid (FrontIs 1125899906842624 (Ut.bytes (Ut.core S)) x4 c4) from hx4)
  clear q3 P4 hx4 b3 hw4
  go_wp2_with (first | (go_at_call 15; fail))
  refine q4.mono ?_
  rintro e w5 ⟨x5, c5, hx5, rfl, hw5⟩
  have b5 := b4.trans (hw5.mono b4.size)
  have s5 := same_agree x4 x5 (A2.out _ _ _ _ HX4.out hx5) w5
  have q5 := P5.out _ b5
  clear q4 P5 hx5 HX4 b4 hw5 A2
  go_wp2_with (first | (go_at_call 13; refine s5.mono ?_; rintro e w' ⟨rfl, hw'⟩; obtain rfl := hw'.symm; clear s5) | (go_at_call 16; fail))
  refine q5.mono ?_
  rintro e w6 ⟨x6, hx6, rfl, hw6⟩
  have b6 := b5.trans (hw6.mono b5.size)
  have q6 := P6.out _ b6
  have HX6 := (show Hid (IntIs (Ut.bytes (Ut.core S)) v1 x6) from hx6)
  clear q5 P6 hx6 b5 hw6
  go_wp2_with (first | (go_at_call 17; fail))
  refine q6.mono ?_
  rintro e w7 ⟨x7, hx7, rfl, hw7⟩
  have b7 := b6.trans (hw7.mono b6.size)
  have s7 := same_agree x6 x7 (int_agree HX6.out hx7) w7
  have q7 := P7.out _ b7
  clear q6 P7 hx7 HX6 b6 hw7
  go_wp2_with (first | (go_at_call 13; refine s7.mono ?_; rintro e w' ⟨rfl, hw'⟩; obtain rfl := hw'.symm; clear s7) | (go_at_call 16; fail))
  refine q7.mono ?_
  rintro e w8 ⟨x8, hx8, rfl, hw8⟩
  have b8 := b7.trans (hw8.mono b7.size)
  have q8 := P8.out _ b8
  have HX8 := (show Hid (IntIs (Ut.bytes (Ut.core S)) v2 x8) from hx8)
  clear q7 P8 hx8 b7 hw8
  go_wp2_with (first | (go_at_call 17; fail))
  refine q8.mono ?_
  rintro e w9 ⟨x9, hx9, rfl, hw9⟩
  have b9 := b8.trans (hw9.mono b8.size)
  have s9 := same_agree x8 x9 (int_agree HX8.out hx9) w9
  clear q8 hx9 HX8 b8 hw9
  go_wp2_with (first | (go_at_call 13; refine s9.mono ?_; rintro e w' ⟨rfl, hw'⟩; obtain rfl := hw'.symm; clear s9))
  go_ret
  exact ⟨rfl, HW1.out.trans (b9.mono HW1.out.size)⟩
/-- **The law, at every text and every word.** -/
theorem numRead_any (S : ByteArray) (B : Nat) (hB : B < 18446744073709551616) (hm : S.size ≤ 9223372036854775807) (w : World) (hL : RdLaid w) :
    Calls Tryz.prog 4 #[.string S, .int .u64 (B : Int)] w fun e w' => e = .returned (.bool true) ∧ Below w.heap.size w w' := by
  rcases Nat.lt_or_ge 4000 S.size with h | h
  · exact numRead_great S S.size rfl h hm _ w
  · obtain ⟨v1, l1, u1, i1, d1⟩ := int32_both B hB
    obtain ⟨Y, hY⟩ : ∃ Y, floatOfInt .f64 ((B : Int) % 40) = Y := ⟨_, rfl⟩
    have hYb : Y < 18446744073709551616 := by
      obtain ⟨r, K, _, e, hlt, _⟩ := fl_word (B % 40) (by omega)
      rw [← hY, show ((B : Int) % 40) = ((B % 40 : Nat) : Int) by omega, e]
      omega
    obtain ⟨v2, l2, u2, i2, d2⟩ := int32_both Y hYb
    have hf := Ut.core_facts S h
    have hsz : (Ut.core S).size ≤ 25000 := by omega
    have hbl : (Ut.bytes (Ut.core S)).length ≤ 25000 := by rw [Ut.bytes_len]; exact hsz
    have hus := Ut.unitsS_lt S
    have hul : (Ut.unitsS S).length ≤ 100000 := by have := Ut.unitsS_len S; omega
    refine numRead_walk S S.size B Y rfl h hB hY w v1 v2 ((Ut.refUnits_any S (by omega) w hL.u).mono ?_) (fun x y hx hy => read_agree hbl hx hy) (fun x y c c' hx hy => front_agree hbl hx hy)
    rintro e w1 ⟨v, rfl, hown, _, hb1⟩
    have hrow := Ut.rowC_of_owns hown
    have hL1 := hL.below hb1
    obtain ⟨sa, sp, hvs, _⟩ := hrow
    have hrow := Ut.rowC_of_owns hown
    have cb : ∀ W, Below w1.heap.size w1 W → Calls Tryz.prog 44 #[v] W fun e w' => e = .returned (.string (Ut.core S)) ∧ Below W.heap.size W w' := fun W hW => Ut.bytesOf_any v (Ut.unitsS S) hus hul W (hrow.below hW) (hL1.below hW).z
    have ct : ∀ W, Below w1.heap.size w1 W → Calls Tryz.prog 39 #[.string S] W fun e w' => e = .returned (.string (Ut.core S)) ∧ Below W.heap.size W w' := fun W hW => Ut.trim_any S (by omega) W (hL1.below hW).u (hL1.below hW).z
    refine ⟨v, rfl, hb1, ⟨sa, _, sp, hvs⟩, fun W hW => readP_all S _ rfl h W (hL1.below hW), fun W hW => ?_, fun W hW => readFloatP_all S _ rfl h W (hL1.below hW), fun W hW => ?_, fun W hW => ?_, fun W hW => ?_, fun W hW => ?_, fun W hW => ?_⟩
    · exact readD_all v sa _ sp hvs (Ut.core S) _ rfl hsz hf.2 W (cb W hW)
    · exact readFloatD v sa _ sp hvs (Ut.core S) _ rfl hsz hf.2 W (cb W hW)
    · exact readIntP S (Ut.core S) _ rfl hsz B v1 l1 u1 W (ct W hW) (fun V hV => i1 V ((hL1.below hW).below hV).t)
    · exact readIntD v sa _ sp hvs (Ut.core S) _ rfl hsz hf.2 B v1 l1 u1 W (cb W hW) d1
    · exact readIntP S (Ut.core S) _ rfl hsz Y v2 l2 u2 W (ct W hW) (fun V hV => i2 V ((hL1.below hW).below hV).t)
    · exact readIntD v sa _ sp hvs (Ut.core S) _ rfl hsz hf.2 Y v2 l2 u2 W (cb W hW) d2
end Go.Proofs.YtellndmbllmjgaaGreatDoor
/- What the row's list gives: the tables of strconv, utf8, unicode. -/
set_option linter.unusedVariables false
namespace Go.Proofs.YtellndmbllmjgaaGreatDoor
open Go.RowKit Go.Shelf Go.Lib Fs

theorem gPow : Tryz.prog.globalNamed "internal/strconv.pow10Tab" = some 11 := by kernel_rfl
theorem gPowT : (Tryz.prog.globals[11]?).map (·.type) = some 306 := by kernel_rfl
theorem u305 : Tryz.prog.underlying 306 = some (.array 696 305) := by kernel_rfl
def fieldsOf : Option TypeDesc → Nat × List (TypeId × Nat)
  | some (.struct fs) => (1, fs.toList.map fun f => (f.type, f.offset))
  | _ => (0, [])
theorem f304 : fieldsOf (Tryz.prog.underlying 305) = (1, [(22, 0), (22, 1)]) := by kernel_rfl
theorem u304 : ∃ fs : Array Field, Tryz.prog.underlying 305 = some (.struct fs) ∧ fs.size = 2 ∧ (fs[0]?).map (fun f => (f.type, f.offset)) = some (22, 0) ∧ (fs[1]?).map (fun f => (f.type, f.offset)) = some (22, 1) := by
  have h := f304
  generalize Tryz.prog.underlying 305 = u at h
  unfold fieldsOf at h
  split at h
  · rename_i fs
    simp only [Prod.mk.injEq, true_and] at h
    have hl := congrArg List.length h
    have h0 := congrArg (·[0]?) h
    have h1 := congrArg (·[1]?) h
    simp at hl h0 h1
    refine ⟨fs, rfl, hl, ?_, ?_⟩
    · obtain ⟨x, h2, h3⟩ := h0
      rw [h2]; simp [h3]
    · obtain ⟨x, h2, h3⟩ := h1
      rw [h2]; simp [h3]
  · simp at h
theorem c304 : Tryz.prog.cellsOf 305 = 2 := by kernel_rfl
theorem c22 : Tryz.prog.cellsOf 22 = 1 := by kernel_rfl
theorem gP10 : Tryz.prog.globalNamed "internal/strconv.uint64pow10" = some 10 := by kernel_rfl
theorem gP10T : (Tryz.prog.globals[10]?).map (·.type) = some 290 := by kernel_rfl
theorem u289 : Tryz.prog.underlying 290 = some (.array 20 22) := by kernel_rfl
theorem c289 : Tryz.prog.cellsOf 290 = 20 := by kernel_rfl
/-- The table's rows are the powers of ten, as the walk takes them. -/
def powOk : Nat → List (Nat × Nat) → Bool
  | _, [] => true
  | i, (hi, lo) :: l => decide (hi < 18446744073709551616) && decide (lo < 18446744073709551616) && (pmOf i + lo == hi * 18446744073709551616) && powOk (i + 1) l
theorem powOk_at : ∀ (l : List (Nat × Nat)) (i j hi lo : Nat), powOk i l = true → l[j]? = some (hi, lo) → hi < 18446744073709551616 ∧ lo < 18446744073709551616 ∧ pmOf (i + j) + lo = hi * 18446744073709551616
  | [], _, j, _, _, _, h => by simp at h
  | (a, b) :: l, i, j, hi, lo, hc, h => by
    simp only [powOk, Bool.and_eq_true, decide_eq_true_eq, beq_iff_eq] at hc
    cases j with
    | zero =>
      simp only [List.getElem?_cons_zero, Option.some.injEq, Prod.mk.injEq] at h
      obtain ⟨rfl, rfl⟩ := h
      exact ⟨hc.1.1.1, hc.1.1.2, hc.1.2⟩
    | succ j =>
      simp only [List.getElem?_cons_succ] at h
      have := powOk_at l (i + 1) j hi lo hc.2 h
      rw [show i + (j + 1) = i + 1 + j by omega]
      exact this
theorem powOk_all : powOk 0 Go.Pinned.pow10Rows = true := by decide +kernel
theorem pow_len : Go.Pinned.pow10Rows.length = 696 := by decide +kernel
theorem powTab_of_reads {w : World} (h : VarReads Tryz.prog w "internal/strconv.pow10Tab" Go.Pinned.pow10Tab) : PowTab w := by
  intro i hi
  obtain ⟨g, t, cs, fuel, p, hg, hty, hvar, hd⟩ := h
  obtain rfl := Option.some.inj (gPow.symm.trans hg)
  obtain rfl := Option.some.inj (gPowT.symm.trans hty)
  obtain ⟨fuel', d, q, hdi, he⟩ := array_elem u305 hd i hi
  obtain ⟨⟨a, b⟩, hab⟩ : ∃ x, Go.Pinned.pow10Rows[i]? = some x := ⟨_, List.getElem?_eq_getElem (by rw [pow_len]; exact hi)⟩
  rw [List.getElem?_map, hab] at hdi
  simp only [Option.map_some, Option.some.injEq] at hdi
  subst hdi
  rw [c304] at he
  obtain ⟨fs, hu, hs, hf0, hf1⟩ := u304
  have hcs := ints_of_struct (zs := [(a : Int), (b : Int)]) hu (fun j f hj => by
    match j, hj with
    | 0, hj => rw [hj] at hf0; simp at hf0; exact ⟨by rw [hf0.1]; exact Tryz.underlying22, hf0.2, by rw [hf0.1]; exact c22⟩
    | 1, hj => rw [hj] at hf1; simp at hf1; exact ⟨by rw [hf1.1]; exact Tryz.underlying22, hf1.2, by rw [hf1.1]; exact c22⟩
    | j + 2, hj =>
      have : j + 2 < fs.size := by
        rcases Nat.lt_or_ge (j + 2) fs.size with h | h
        · exact h
        · rw [Array.getElem?_eq_none h] at hj; cases hj
      omega) (by rw [c304, hs]) he
  have e0 := congrArg (·[0]?) hcs
  have e1 := congrArg (·[1]?) hcs
  have v0 := World.var?_cell hg hvar (i * 2)
  have v1 := World.var?_cell hg hvar (i * 2 + 1)
  simp only [List.getElem?_take, List.getElem?_drop] at e0 e1
  have f := powOk_at Go.Pinned.pow10Rows 0 i a b powOk_all hab
  rw [Nat.zero_add] at f
  refine ⟨a, b, ⟨?_, ?_⟩, f⟩
  · rw [v0, ← Array.getElem?_toList]
    simpa using e0
  · rw [v1, ← Array.getElem?_toList]
    simpa using e1
theorem p10_of_reads {w : World} (h : VarReads Tryz.prog w "internal/strconv.uint64pow10" Rows.laid_internal_strconv_uint64pow10) : TabIs Tryz.prog w "internal/strconv.uint64pow10" .u64 Lib.pow10Tab := by
  have e : (Rows.laid_internal_strconv_uint64pow10 : DataW Unit) = tabData .u64 Lib.pow10Tab := by kernel_rfl
  rw [e] at h
  obtain ⟨g, t, cs, fuel, p, hg, hty, hvar, hd⟩ := h
  obtain rfl := Option.some.inj (gP10.symm.trans hg)
  obtain rfl := Option.some.inj (gP10T.symm.trans hty)
  unfold TabIs
  rw [hvar, ← cells_of_tab u289 Tryz.underlying22 c22 c289 hd]
theorem most_of_shape {w : World} (h : w.ShapedOpen Tryz.prog) : ∃ m, w.cell? ⟨6, 0, none⟩ = some (.int .i64 m) :=
  cell_of_shapedOpen_int (P := Tryz.prog) (g := 6) (t := 3) (zero := #[.int .i64 0]) h (of_decide_eq_true (by kernel_rfl)) (by kernel_rfl) rfl (by kernel_rfl) (by kernel_rfl) Tryz.underlying3
theorem gInfo : Tryz.prog.globalNamed "internal/strconv.float64info" = some 15 := by kernel_rfl
theorem gInfoT : (Tryz.prog.globals[15]?).map (·.type) = some 323 := by kernel_rfl
theorem c99 : Tryz.prog.cellsOf 99 = 1 := by kernel_rfl
theorem f322 : fieldsOf (Tryz.prog.underlying 323) = (1, [(99, 0), (99, 1), (3, 2)]) := by kernel_rfl
theorem u322 : ∃ fs : Array Field, Tryz.prog.underlying 323 = some (.struct fs) ∧ fs.size = 3 ∧ ∃ f0, fs[0]? = some f0 ∧ f0.type = 99 ∧ f0.offset = 0 := by
  have h := f322
  generalize Tryz.prog.underlying 323 = u at h
  unfold fieldsOf at h
  split at h
  · rename_i fs
    simp only [Prod.mk.injEq, true_and] at h
    have hl := congrArg List.length h
    have h0 := congrArg (·[0]?) h
    simp at hl h0
    obtain ⟨x, h2, h3⟩ := h0
    exact ⟨fs, rfl, hl, x, h2, h3.1, h3.2⟩
  · simp at h
theorem info_of_reads {w : World} (h : VarReads Tryz.prog w "internal/strconv.float64info" Rows.laid_internal_strconv_float64info) : w.cell? ⟨15, 0, none⟩ = some (.int .u64 52) := by
  obtain ⟨g, t, cs, fuel, p, hg, hty, hvar, hd⟩ := h
  obtain rfl := Option.some.inj (gInfo.symm.trans hg)
  obtain rfl := Option.some.inj (gInfoT.symm.trans hty)
  obtain ⟨fs, hu, hs, f0, hf0, ht0, ho0⟩ := u322
  obtain ⟨xs, n, rfl, hx, hl, hxl, hall⟩ := DataW.trod_struct hu hd
  have h0 := hall 0 f0 hf0
  rw [ht0, ho0, c99] at h0
  have hx0 : (xs.map (·.1))[0]? = some (DataW.lit (.int .u64 52)) := by
    have := congrArg Prod.fst hx
    simp only [DataW.agg.injEq, Rows.laid_internal_strconv_float64info] at this
    rw [← this]
    rfl
  obtain ⟨y, hy, hy1⟩ : ∃ y, xs[0]? = some y ∧ y.1 = DataW.lit (.int .u64 52) := by
    rw [List.getElem?_map] at hx0
    obtain ⟨y, hy, hy1⟩ := Option.map_eq_some_iff.1 hx0
    exact ⟨y, hy, hy1⟩
  rw [hy] at h0
  obtain ⟨z, hz, hz1, _⟩ := DataW.trod_int Tryz.underlying99 h0
  have hz2 : z = 52 := by
    rw [hz1] at hy1
    simpa using hy1
  subst hz2
  have v0 := World.var?_cell hg hvar 0
  rw [v0, ← Array.getElem?_toList]
  have := congrArg (·[0]?) hz
  simpa using this
theorem trod_f64 {H : Type} {enc : TypeId × Value → H} {w : World} {base : Nat} {spare : Nat → Bool} {held : Bool} {fuel : Nat} {cs : List Value} {x : DataW H × List MemPlace} (h : DataW.trod enc Tryz.prog w base spare held fuel 23 cs = some x) : ∃ n, cs = [.float .f64 n] ∧ x = (.lit (.float .f64 n), []) := by
  have ht : Tryz.prog.underlying 23 = some (.float .f64) := by rw [Tryz.underlying23]
  cases fuel with
  | zero => simp [DataW.trod] at h
  | succ n =>
    unfold DataW.trod at h
    rw [ht] at h
    split at h <;> simp_all
theorem gF10 : Tryz.prog.globalNamed "internal/strconv.float64pow10" = some 18 := by kernel_rfl
theorem gF10T : (Tryz.prog.globals[18]?).map (·.type) = some 338 := by kernel_rfl
theorem u337 : Tryz.prog.underlying 338 = some (.slice 23) := by kernel_rfl
theorem c23 : Tryz.prog.cellsOf 23 = 1 := by kernel_rfl
def p10L : List Nat := (List.range 23).map p10w
theorem p10_data : (Rows.laid_internal_strconv_float64pow10 : DataW Unit) = .slice (p10L.map fun x => .lit (.float .f64 x)) [] := by kernel_rfl
theorem p10s_of_reads {w : World} (h : VarReads Tryz.prog w "internal/strconv.float64pow10" Rows.laid_internal_strconv_float64pow10) : ∃ b off cap, w.cell? ⟨18, 0, none⟩ = some (.slice (some ⟨b, off, none⟩) 23 cap) ∧ ∀ k, k ≤ 22 → w.cell? ⟨b, off + k, none⟩ = some (.float .f64 (p10w k)) := by
  rw [p10_data] at h
  obtain ⟨g, t, cs, fuel, p, hg, hty, hvar, hd⟩ := h
  obtain rfl := Option.some.inj (gF10.symm.trans hg)
  obtain rfl := Option.some.inj (gF10T.symm.trans hty)
  have v0 := World.var?_cell hg hvar 0
  rcases DataW.trod_slice u337 hd with ⟨hcs, hx'⟩ | ⟨a', len, cap, el, rs, m, rfl, hc0, hx', _, hlc, _, hel, helem, hsp, _⟩
  · simp at hx'
  · simp only [Prod.mk.injEq, DataW.slice.injEq] at hx'
    obtain ⟨⟨eE, _⟩, _⟩ := hx'
    have hlen : len = 23 := by
      have := congrArg List.length eE
      simp [p10L] at this
      omega
    subst hlen
    have hat : ∀ i, i < 23 → w.cell? (a'.add i) = some (.float .f64 (p10w i)) := by
      intro i hi
      have h1 := helem i hi
      rw [c23, Nat.mul_one] at h1
      obtain ⟨b, hb⟩ : ∃ b, el[i]? = some b := ⟨el[i]'(by omega), List.getElem?_eq_getElem (by omega)⟩
      rw [hb] at h1
      obtain ⟨ce, hce, hte⟩ := Option.bind_eq_some_iff.1 h1
      have hb1 : b.1 = DataW.lit (.float .f64 (p10w i)) := by
        have := congrArg (·[i]?) eE
        simpa [hb, hi, p10L] using this.symm
      obtain ⟨_, _, hcc⟩ := World.cells?_some hce
      have hc := hcc 0 (by omega)
      obtain ⟨z, hz, hz1⟩ := trod_f64 hte
      rw [hz1] at hb1
      have hz2 : z = p10w i := by simpa using hb1
      subst hz2
      rw [hz] at hc
      have e : (a'.add i).add 0 = a'.add i := by simp [Addr.add]
      rw [e] at hc
      exact hc
    obtain ⟨R, o, sR⟩ := a'
    obtain rfl : sR = none := by
      have h00 := hat 0 (by omega)
      have : (Addr.add ⟨R, o, sR⟩ 0) = ⟨R, o, sR⟩ := by simp [Addr.add]
      rw [this] at h00
      exact cell_spot h00
    refine ⟨R, o, cap, ?_, fun k hk => ?_⟩
    · rw [v0, ← Array.getElem?_toList, hc0]
      rfl
    · have := hat k (by omega)
      rw [Addr.add_lit] at this
      exact this
theorem gOpt : Tryz.prog.globalNamed "internal/strconv.optimize" = some 7 := by kernel_rfl
theorem gOptT : (Tryz.prog.globals[7]?).map (·.type) = some 4 := by kernel_rfl
theorem opt_of_reads {w : World} (h : VarReads Tryz.prog w "internal/strconv.optimize" Rows.laid_internal_strconv_optimize) : w.cell? ⟨7, 0, none⟩ = some (.bool true) := by
  obtain ⟨g, t, cs, fuel, p, hg, hty, hvar, hd⟩ := h
  obtain rfl := Option.some.inj (gOpt.symm.trans hg)
  obtain rfl := Option.some.inj (gOptT.symm.trans hty)
  obtain ⟨b, hb, hx⟩ := DataW.trod_bool Tryz.underlying4 hd
  have hb2 : b = true := by
    have := congrArg Prod.fst hx
    simpa [Rows.laid_internal_strconv_optimize] using this.symm
  subst hb2
  have v0 := World.var?_cell hg hvar 0
  rw [v0, ← Array.getElem?_toList, hb]
  rfl
theorem gErr : Tryz.prog.globalNamed "strconv.ErrRange" = some 9 := by kernel_rfl
theorem gErrT : (Tryz.prog.globals[9]?).map (·.type) = some 79 := by kernel_rfl
def isIface : Option TypeDesc → Bool
  | some (.interface _) => true
  | _ => false
theorem u79 : ∃ ms, Tryz.prog.underlying 79 = some (.interface ms) := by
  have h : isIface (Tryz.prog.underlying 79) = true := by kernel_rfl
  generalize Tryz.prog.underlying 79 = u at h
  unfold isIface at h
  split at h
  · exact ⟨_, rfl⟩
  · cases h
theorem err_of_reads {w : World} (h : VarReads Tryz.prog w "strconv.ErrRange" Rows.laid_strconv_ErrRange) : ∃ te pe, w.cell? ⟨9, 0, none⟩ = some (.iface te pe) := by
  obtain ⟨g, t, cs, fuel, p, hg, hty, hvar, hd⟩ := h
  obtain rfl := Option.some.inj (gErr.symm.trans hg)
  obtain rfl := Option.some.inj (gErrT.symm.trans hty)
  obtain ⟨ms, hms⟩ := u79
  obtain ⟨_, u, v, hcs, _, _⟩ := iface_of_trod hms hd
  have v0 := World.var?_cell hg hvar 0
  refine ⟨u, v, ?_⟩
  rw [v0, ← Array.getElem?_toList, hcs]
  rfl
theorem u8extra : U8Extra Tryz.prog Tryz.lays260_ren := {
  n3 := by kernel_rfl
  n4 := by kernel_rfl
  y3 := by kernel_rfl
  y4 := by kernel_rfl
  c5 := by kernel_rfl
  c119 := by kernel_rfl
  c138 := by kernel_rfl }
/-- The numbers of the range table's types. -/
def zren : Go.Shelf.Ren := ⟨fun n => n, fun | 49 => 58 | 51 => 108 | 141 => 147 | 193 => 194 | 194 => 195 | 196 => 197 | 198 => 199 | 201 => 202 | n => n, fun n => n⟩
theorem rtypes : RTypes Tryz.prog zren := {
  t3 := Tryz.underlying3
  t49 := by kernel_rfl
  t51 := by kernel_rfl
  t141 := by kernel_rfl
  t193 := by kernel_rfl
  t194 := by kernel_rfl
  t196 := by kernel_rfl
  t198 := by kernel_rfl
  t201 := by kernel_rfl }
theorem rextra : RExtra Tryz.prog zren := {
  c3 := by kernel_rfl
  c49 := by kernel_rfl
  c51 := by kernel_rfl
  c193 := by kernel_rfl
  c194 := by kernel_rfl
  c196 := by kernel_rfl
  c198 := by kernel_rfl
  c201 := by kernel_rfl }
theorem first_eq : Go.Pinned.utf8First = (firstData : DataW Unit) := by kernel_rfl
theorem accept_eq : (Rows.laid_unicode_utf8_acceptRanges : DataW Unit) = acceptData := by kernel_rfl
theorem zs_eq : (Rows.laid_unicode_Zs : DataW Unit) = rtabData Ut.zsT := by kernel_rfl
theorem u8_of_reads {w : World} (h1 : VarReads Tryz.prog w "unicode/utf8.first" Go.Pinned.utf8First) (h2 : VarReads Tryz.prog w "unicode/utf8.acceptRanges" Rows.laid_unicode_utf8_acceptRanges) : Lib.Utf8Tabs 1 2 w := by
  rw [first_eq] at h1
  rw [accept_eq] at h2
  exact utf8Tabs_of_readsT (U8Types.of260 Tryz.lays260) u8extra h1 h2
theorem zs_of_reads {w : World} (h : VarReads Tryz.prog w "unicode.Zs" Rows.laid_unicode_Zs) : Lib.RVar 3 Ut.zsT w := by
  rw [zs_eq] at h
  exact rvar_of_readsT rtypes rextra (by kernel_rfl) (by kernel_rfl) h
theorem u322b : ∃ fs : Array Field, Tryz.prog.underlying 323 = some (.struct fs) ∧ fs.size = 3 ∧ (∃ f1, fs[1]? = some f1 ∧ f1.type = 99 ∧ f1.offset = 1) ∧ ∃ f2, fs[2]? = some f2 ∧ f2.type = 3 ∧ f2.offset = 2 := by
  have h := f322
  generalize Tryz.prog.underlying 323 = u at h
  unfold fieldsOf at h
  split at h
  · rename_i fs
    simp only [Prod.mk.injEq, true_and] at h
    have hl := congrArg List.length h
    have h1 := congrArg (·[1]?) h
    have h2 := congrArg (·[2]?) h
    simp at hl h1 h2
    obtain ⟨x, h3, h4⟩ := h1
    obtain ⟨y, h5, h6⟩ := h2
    exact ⟨fs, rfl, hl, ⟨x, h3, h4.1, h4.2⟩, y, h5, h6.1, h6.2⟩
  · simp at h
theorem c3 : Tryz.prog.cellsOf 3 = 1 := by kernel_rfl
theorem c9 : Tryz.prog.cellsOf 9 = 1 := by kernel_rfl
theorem info2_of_reads {w : World} (h : VarReads Tryz.prog w "internal/strconv.float64info" Rows.laid_internal_strconv_float64info) : w.cell? ⟨15, 1, none⟩ = some (.int .u64 11) ∧ w.cell? ⟨15, 2, none⟩ = some (.int .i64 (-1023)) := by
  obtain ⟨g, t, cs, fuel, p, hg, hty, hvar, hd⟩ := h
  obtain rfl := Option.some.inj (gInfo.symm.trans hg)
  obtain rfl := Option.some.inj (gInfoT.symm.trans hty)
  obtain ⟨fs, hu, hs, ⟨f1, hf1, ht1, ho1⟩, f2, hf2, ht2, ho2⟩ := u322b
  obtain ⟨xs, n, rfl, hx, hl, hxl, hall⟩ := DataW.trod_struct hu hd
  have h1 := hall 1 f1 hf1
  have h2 := hall 2 f2 hf2
  rw [ht1, ho1, c99] at h1
  rw [ht2, ho2, c3] at h2
  have hx0 := congrArg Prod.fst hx
  simp only [DataW.agg.injEq, Rows.laid_internal_strconv_float64info] at hx0
  have hx1 : (xs.map (·.1))[1]? = some (DataW.lit (.int .u64 11)) := by rw [← hx0]; rfl
  have hx2 : (xs.map (·.1))[2]? = some (DataW.lit (.int .i64 (-1023))) := by rw [← hx0]; rfl
  rw [List.getElem?_map] at hx1 hx2
  obtain ⟨y1, hy1, hz1⟩ := Option.map_eq_some_iff.1 hx1
  obtain ⟨y2, hy2, hz2⟩ := Option.map_eq_some_iff.1 hx2
  rw [hy1] at h1
  rw [hy2] at h2
  obtain ⟨z1, ha1, hb1, _⟩ := DataW.trod_int Tryz.underlying99 h1
  obtain ⟨z2, ha2, hb2, _⟩ := DataW.trod_int Tryz.underlying3 h2
  have e1 : z1 = 11 := by rw [hb1] at hz1; simpa using hz1
  have e2 : z2 = -1023 := by rw [hb2] at hz2; simpa using hz2
  subst e1
  subst e2
  have v1 := World.var?_cell hg hvar 1
  have v2 := World.var?_cell hg hvar 2
  rw [v1, v2, ← Array.getElem?_toList, ← Array.getElem?_toList]
  have g1 := congrArg (·[0]?) ha1
  have g2 := congrArg (·[0]?) ha2
  simp only [List.getElem?_take, List.getElem?_drop] at g1 g2
  exact ⟨by simpa using g1, by simpa using g2⟩
theorem gPwt : Tryz.prog.globalNamed "internal/strconv.powtab" = some 17 := by kernel_rfl
theorem gPwtT : (Tryz.prog.globals[17]?).map (·.type) = some 337 := by kernel_rfl
theorem u336 : Tryz.prog.underlying 337 = some (.slice 3) := by kernel_rfl
def pwtL : List Nat := (List.range 9).map pwt
theorem pwt_data : (Rows.laid_internal_strconv_powtab : DataW Unit) = .slice (pwtL.map fun (x : Nat) => .lit (.int .i64 (x : Int))) [] := by kernel_rfl
theorem pwt_of_reads {w : World} (h : VarReads Tryz.prog w "internal/strconv.powtab" Rows.laid_internal_strconv_powtab) : ∃ B off cap, w.cell? ⟨17, 0, none⟩ = some (.slice (some ⟨B, off, none⟩) 9 cap) ∧ 9 ≤ cap ∧ ∀ j, j < 9 → w.cell? ⟨B, off + j, none⟩ = some (.int .i64 (pwt j : Int)) := by
  rw [pwt_data] at h
  obtain ⟨g, t, cs, fuel, p, hg, hty, hvar, hd⟩ := h
  obtain rfl := Option.some.inj (gPwt.symm.trans hg)
  obtain rfl := Option.some.inj (gPwtT.symm.trans hty)
  have v0 := World.var?_cell hg hvar 0
  rcases DataW.trod_slice u336 hd with ⟨hcs, hx'⟩ | ⟨a', len, cap, el, rs, m, rfl, hc0, hx', _, hlc, _, hel, helem, hsp, _⟩
  · simp at hx'
  · simp only [Prod.mk.injEq, DataW.slice.injEq] at hx'
    obtain ⟨⟨eE, _⟩, _⟩ := hx'
    have hlen : len = 9 := by
      have := congrArg List.length eE
      simp [pwtL] at this
      omega
    subst hlen
    have hat : ∀ i, i < 9 → w.cell? (a'.add i) = some (.int .i64 (pwt i : Int)) := by
      intro i hi
      have h1 := helem i hi
      rw [c3, Nat.mul_one] at h1
      obtain ⟨b, hb⟩ : ∃ b, el[i]? = some b := ⟨el[i]'(by omega), List.getElem?_eq_getElem (by omega)⟩
      rw [hb] at h1
      obtain ⟨ce, hce, hte⟩ := Option.bind_eq_some_iff.1 h1
      have hb1 : b.1 = DataW.lit (.int .i64 (pwt i : Int)) := by
        have := congrArg (·[i]?) eE
        simpa [hb, hi, pwtL] using this.symm
      obtain ⟨_, _, hcc⟩ := World.cells?_some hce
      have hc := hcc 0 (by omega)
      obtain ⟨z, hz, hz1, _⟩ := DataW.trod_int Tryz.underlying3 hte
      rw [hz1] at hb1
      have hz2 : z = (pwt i : Int) := by simpa using hb1
      subst hz2
      rw [hz] at hc
      have e : (a'.add i).add 0 = a'.add i := by simp [Addr.add]
      rw [e] at hc
      exact hc
    obtain ⟨R, o, sR⟩ := a'
    obtain rfl : sR = none := by
      have h00 := hat 0 (by omega)
      have : (Addr.add ⟨R, o, sR⟩ 0) = ⟨R, o, sR⟩ := by simp [Addr.add]
      rw [this] at h00
      exact cell_spot h00
    refine ⟨R, o, cap, ?_, hlc, fun k hk => ?_⟩
    · rw [v0, ← Array.getElem?_toList, hc0]
      rfl
    · have := hat k (by omega)
      rw [Addr.add_lit] at this
      exact this
theorem gCh : Tryz.prog.globalNamed "internal/strconv.leftcheats" = some 12 := by kernel_rfl
theorem gChT : (Tryz.prog.globals[12]?).map (·.type) = some 311 := by kernel_rfl
theorem u310 : Tryz.prog.underlying 311 = some (.slice 310) := by kernel_rfl
theorem c309 : Tryz.prog.cellsOf 310 = 2 := by kernel_rfl
theorem f309 : fieldsOf (Tryz.prog.underlying 310) = (1, [(3, 0), (9, 1)]) := by kernel_rfl
theorem u309 : ∃ fs : Array Field, Tryz.prog.underlying 310 = some (.struct fs) ∧ fs.size = 2 ∧ (∃ f0, fs[0]? = some f0 ∧ f0.type = 3 ∧ f0.offset = 0) ∧ ∃ f1, fs[1]? = some f1 ∧ f1.type = 9 ∧ f1.offset = 1 := by
  have h := f309
  generalize Tryz.prog.underlying 310 = u at h
  unfold fieldsOf at h
  split at h
  · rename_i fs
    simp only [Prod.mk.injEq, true_and] at h
    have hl := congrArg List.length h
    have h0 := congrArg (·[0]?) h
    have h1 := congrArg (·[1]?) h
    simp at hl h0 h1
    obtain ⟨x, h3, h4⟩ := h0
    obtain ⟨y, h5, h6⟩ := h1
    exact ⟨fs, rfl, hl, ⟨x, h3, h4.1, h4.2⟩, y, h5, h6.1, h6.2⟩
  · simp at h
theorem ch_len : Go.Pinned.cheatRows.length = 61 := by decide +kernel
theorem cheats_of_reads {w : World} (h : VarReads Tryz.prog w "internal/strconv.leftcheats" Go.Pinned.leftcheats) : ∃ B off cap, w.cell? ⟨12, 0, none⟩ = some (.slice (some ⟨B, off, none⟩) 61 cap) ∧ 61 ≤ cap ∧
    ∀ k, k < 61 → w.cell? ⟨B, off + k * 2, none⟩ = some (.int .i64 (chW k : Int)) ∧ w.cell? ⟨B, off + k * 2 + 1, none⟩ = some (.string ⟨((Go.Pinned.cheatRows.getD k (0, [])).2).toArray⟩) := by
  obtain ⟨g, t, cs, fuel, p, hg, hty, hvar, hd⟩ := h
  obtain rfl := Option.some.inj (gCh.symm.trans hg)
  obtain rfl := Option.some.inj (gChT.symm.trans hty)
  have v0 := World.var?_cell hg hvar 0
  rcases DataW.trod_slice u310 hd with ⟨hcs, hx'⟩ | ⟨a', len, cap, el, rs, m, rfl, hc0, hx', _, hlc, _, hel, helem, hsp, _⟩
  · unfold Go.Pinned.leftcheats at hx'
    simp at hx'
  · unfold Go.Pinned.leftcheats at hx'
    simp only [Prod.mk.injEq, DataW.slice.injEq] at hx'
    obtain ⟨⟨eE, _⟩, _⟩ := hx'
    have hlen : len = 61 := by
      have := congrArg List.length eE
      rw [List.length_map, List.length_map, ch_len] at this
      omega
    subst hlen
    obtain ⟨R, o, sR⟩ := a'
    obtain rfl : sR = none := by
      have h1 := helem 0 (by omega)
      obtain ⟨b, hb⟩ : ∃ b, el[0]? = some b := ⟨el[0]'(by omega), List.getElem?_eq_getElem (by omega)⟩
      rw [hb] at h1
      obtain ⟨ce, hce, _⟩ := Option.bind_eq_some_iff.1 h1
      obtain ⟨_, _, hcc⟩ := World.cells?_some hce
      have hc := hcc 0 (by rw [c309]; omega)
      have e : ((Addr.add ⟨R, o, sR⟩ (0 * Tryz.prog.cellsOf 310)).add 0) = ⟨R, o, sR⟩ := by simp [Addr.add]
      rw [e] at hc
      rcases hv : ce[0]? with _ | v
      · rw [hv] at hc
        have : ce.length = 2 := by
          have := World.cells?_some hce
          rw [← c309]
          exact this.2.1
        rw [List.getElem?_eq_none_iff] at hv
        omega
      · rw [hv] at hc
        exact cell_spot hc
    have hat : ∀ i, i < 61 → w.cell? ⟨R, o + i * 2, none⟩ = some (.int .i64 (chW i : Int)) ∧ w.cell? ⟨R, o + i * 2 + 1, none⟩ = some (.string ⟨((Go.Pinned.cheatRows.getD i (0, [])).2).toArray⟩) := by
      intro i hi
      have h1 := helem i hi
      rw [c309] at h1
      obtain ⟨b, hb⟩ : ∃ b, el[i]? = some b := ⟨el[i]'(by omega), List.getElem?_eq_getElem (by omega)⟩
      rw [hb] at h1
      obtain ⟨ce, hce, hte⟩ := Option.bind_eq_some_iff.1 h1
      obtain ⟨row, hrow⟩ : ∃ row, Go.Pinned.cheatRows[i]? = some row := ⟨_, List.getElem?_eq_getElem (by rw [ch_len]; exact hi)⟩
      have hgd : Go.Pinned.cheatRows.getD i (0, []) = row := by rw [List.getD_eq_getElem?_getD, hrow]; rfl
      have hw1 := (ch_ok i hi).1
      rw [hgd] at hw1
      have hb1 : b.1 = DataW.agg [.lit (.int .i64 (row.1 : Int)), .lit (.string row.2)] := by
        have := congrArg (·[i]?) eE
        rw [List.getElem?_map, List.getElem?_map, hb, hrow] at this
        simpa using this.symm
      obtain ⟨_, _, hcc⟩ := World.cells?_some hce
      obtain ⟨fs, hu, hs, ⟨f0, hf0, ht0, ho0⟩, f1, hf1, ht1, ho1⟩ := u309
      obtain ⟨xs, n, hfu, hx, hl, hxl, hall⟩ := DataW.trod_struct hu hte
      have q0 := hall 0 f0 hf0
      have q1 := hall 1 f1 hf1
      rw [ht0, ho0, c3] at q0
      rw [ht1, ho1, c9] at q1
      rw [hx] at hb1
      simp only [DataW.agg.injEq] at hb1
      have hx1 : (xs.map (·.1))[0]? = some (DataW.lit (.int .i64 (row.1 : Int))) := by rw [hb1]; rfl
      have hx2 : (xs.map (·.1))[1]? = some (DataW.lit (.string row.2)) := by rw [hb1]; rfl
      rw [List.getElem?_map] at hx1 hx2
      obtain ⟨y1, hy1, hz1⟩ := Option.map_eq_some_iff.1 hx1
      obtain ⟨y2, hy2, hz2⟩ := Option.map_eq_some_iff.1 hx2
      rw [hy1] at q0
      rw [hy2] at q1
      obtain ⟨z1, ha1, hd1, _⟩ := DataW.trod_int Tryz.underlying3 q0
      obtain ⟨z2, ha2, hd2, _⟩ := DataW.trod_string Tryz.underlying9 q1
      have e1 : z1 = (row.1 : Int) := by rw [hd1] at hz1; simpa using hz1
      have e2 : z2 = ⟨row.2.toArray⟩ := by
        rw [hd2] at hz2
        have : z2.data.toList = row.2 := by simpa using hz2
        apply ByteArray.ext
        rw [← this]
      have g1 := congrArg (·[0]?) ha1
      have g2 := congrArg (·[0]?) ha2
      simp only [List.getElem?_take, List.getElem?_drop] at g1 g2
      have k0 := hcc 0 (by omega)
      have k1 := hcc 1 (by omega)
      rw [hgd, ← hw1]
      constructor
      · rw [e1] at g1
        rw [Addr.add_lit, Addr.add_lit, Nat.add_zero] at k0
        rw [k0]
        simpa using g1
      · rw [e2] at g2
        rw [Addr.add_lit, Addr.add_lit] at k1
        rw [k1]
        simpa using g2
    refine ⟨R, o, cap, ?_, hlc, fun k hk => ?_⟩
    · rw [v0, ← Array.getElem?_toList, hc0]
      rfl
    · exact hat k hk
theorem gTab : Tryz.prog.globalNamed "math/bits.deBruijn64tab" = some 4 := by kernel_rfl
theorem gTabT : (Tryz.prog.globals[4]?).map (·.type) = some 212 := by kernel_rfl
theorem u211 : Tryz.prog.underlying 212 = some (.array 64 5) := by kernel_rfl
theorem c211 : Tryz.prog.cellsOf 212 = 64 := by kernel_rfl
theorem c5 : Tryz.prog.cellsOf 5 = 1 := by kernel_rfl
def tabZ : List Int := Lib.deBruijn64tab.map fun n : Nat => (n : Int)
theorem tab_of_reads {w : World} (h : VarReads Tryz.prog w "math/bits.deBruijn64tab" Rows.laid_math_bits_deBruijn64tab) : TabAt 4 Lib.deBruijn64tab w := by
  have e : (Rows.laid_math_bits_deBruijn64tab : DataW Unit) = tabData .u8 tabZ := by kernel_rfl
  rw [e] at h
  obtain ⟨g, t, cs, fuel, p, hg, hty, hvar, hd⟩ := h
  obtain rfl := Option.some.inj (gTab.symm.trans hg)
  obtain rfl := Option.some.inj (gTabT.symm.trans hty)
  have t : TabIs Tryz.prog w "math/bits.deBruijn64tab" .u8 tabZ := by
    unfold TabIs
    rw [hvar, ← cells_of_tab u211 Tryz.underlying5 c5 c211 hd]
  intro j hj
  have hlen : tabZ.length = Lib.deBruijn64tab.length := List.length_map ..
  have := t.cell gTab j (by omega)
  rw [this]
  congr 2
  unfold tabZ
  rw [List.getD_eq_getElem?_getD, List.getElem?_map, List.getD_eq_getElem?_getD, List.getElem?_eq_getElem hj]
  rfl
end Go.Proofs.YtellndmbllmjgaaGreatDoor
