/- How great math.archLog's answer can be. -/
import Derived.Test.YtellndmbllmjgaaGreatDoorLg
import Derived.Laws.Sem
import GoSem.Extern.MathLog
set_option linter.unusedVariables false
set_option linter.unusedSimpArgs false
namespace Go.Proofs.YtellndmbllmjgaaGreatDoor
namespace Fl
open Ieee Go

theorem run_add {P : Program} {w : World} {x y z : Nat} (h : double.add x y = some z) : (Extern.MathAsm.add x y).run P w = .ok z w := by
  have h' : FloatKind.f64.format.add x y = some z := h
  unfold Extern.MathAsm.add Extern.MathAsm.arith Op.floatArith
  simp [h', Result.andThen]
theorem run_sub {P : Program} {w : World} {x y z : Nat} (h : double.sub x y = some z) : (Extern.MathAsm.sub x y).run P w = .ok z w := by
  have h' : FloatKind.f64.format.sub x y = some z := h
  unfold Extern.MathAsm.sub Extern.MathAsm.arith Op.floatArith
  simp [h', Result.andThen]
theorem run_mul {P : Program} {w : World} {x y z : Nat} (h : double.mul x y = some z) : (Extern.MathAsm.mul x y).run P w = .ok z w := by
  have h' : FloatKind.f64.format.mul x y = some z := h
  unfold Extern.MathAsm.mul Extern.MathAsm.arith Op.floatArith
  simp [h', Result.andThen]
theorem run_div {P : Program} {w : World} {x y z : Nat} (h : double.div x y = some z) : (Extern.MathAsm.div x y).run P w = .ok z w := by
  have h' : FloatKind.f64.format.div x y = some z := h
  unfold Extern.MathAsm.div Extern.MathAsm.arith Op.floatArith
  simp [h', Result.andThen]
theorem ofInt_sz (n : Int) (h : n.natAbs ≤ 1024) : Sz 1033 (Extern.MathAsm.ofInt32 n) := by
  obtain ⟨r, hr, hn⟩ := nearest_le (decide (n < 0)) n.natAbs 0 0 1033 (by omega) (by omega) (by
    rw [Nat.zero_add, Nat.add_zero, show 1033 = 10 + 1023 from rfl, e2_add 10 1023]
    have h10 : e2 10 = 1024 := by decide
    exact Nat.mul_le_mul_right (e2 1023) (show n.natAbs ≤ e2 10 by omega))
  exact ⟨decide (n < 0), r, Eq.trans rfl hn, hr⟩
theorem add_1 : double.add 0 4607182418800017408 = some 4607182418800017408 := by decide +kernel
theorem add_2 : double.add 4607182418800017408 4607182418800017408 = some 4611686018427387904 := by decide +kernel
theorem log_run (x : Nat) (h0 : 0 < x) (h1 : x < 9218868437227405312) : ∃ z, Sz 1035 z ∧ ∀ (P : Program) (w : World), (Extern.MathLog.archLog #[.float .f64 x]).run P w = .ok (.float .f64 z) w := by
  obtain ⟨f1, hf1⟩ : ∃ f1, f1 = x % 2 ^ 52 + Extern.MathAsm.half := ⟨_, rfl⟩
  obtain ⟨k0, hk0⟩ : ∃ k0, k0 = Extern.MathAsm.ofInt32 (Int.ofNat (x / 2 ^ 52) - 0x3FE) := ⟨_, rfl⟩
  obtain ⟨small, hs⟩ : ∃ small, small = !Extern.MathAsm.lt 0x3FE6A09E667F3BCD f1 := ⟨_, rfl⟩
  have hh : Extern.MathAsm.half = 1022 * 4503599627370496 := by decide
  have ho : Extern.MathAsm.one = 4607182418800017408 := rfl
  have htw : Extern.MathAsm.two = 4611686018427387904 := rfl
  have hf : f1 ≤ 1023 * 4503599627370496 := by rw [hf1, hh]; omega
  have hk : Sz 1033 k0 := by rw [hk0]; exact ofInt_sz _ (by rw [Int.ofNat_eq_natCast]; omega)
  -- whether it is doubled
  obtain ⟨o, ho1, ho2, ho3⟩ : ∃ o, o = (if small then Extern.MathAsm.one else 0) ∧ Sz 1033 o ∧ ∃ d, double.add o Extern.MathAsm.one = some d ∧ d ≤ 1024 * 4503599627370496 := by
    refine ⟨_, rfl, ?_, ?_⟩
    · split
      · exact Sz.lit _ _ (by rw [ho]; omega)
      · exact Sz.lit _ _ (by omega)
    · split
      · exact ⟨_, by rw [ho]; exact add_2, by omega⟩
      · exact ⟨_, by rw [ho]; exact add_1, by omega⟩
  obtain ⟨d, hd1, hd2⟩ := ho3
  obtain ⟨k, ek, bk⟩ := sub_sz (by omega) (by omega) hk ho2
  obtain ⟨g, eg, bg⟩ := mul_pos (T := 1024) (by omega) (by omega) (by omega) (by omega) (by omega) (by omega) (by omega) hf hd2
  obtain ⟨f, ef, bf⟩ := sub_one bg
  obtain ⟨t, et, bt1, bt2⟩ := add_two bf
  obtain ⟨s, es, bs⟩ := div_sz bf bt1 (by omega)
  obtain ⟨s2, es2, bs2⟩ := mul_sz (T := 1023) (by omega) (by omega) (by omega) (by omega) (by omega) (by omega) (by omega) bs bs
  obtain ⟨s4, es4, bs4⟩ := mul_sz (T := 1023) (by omega) (by omega) (by omega) (by omega) (by omega) (by omega) (by omega) bs2 bs2
  have lit : ∀ x, x ≤ 1023 * 4503599627370496 → Sz 1023 x := fun x h => Sz.lit _ _ h
  obtain ⟨a1, ea1, ba1⟩ := mul_sz (T := 1023) (by omega) (by omega) (by omega) (by omega) (by omega) (by omega) (by omega) (lit 0x3FC2F112DF3E5244 (by omega)) bs4
  obtain ⟨a2, ea2, ba2⟩ := add_sz (by omega) (by omega) ba1 (lit 0x3FC7466496CB03DE (by omega))
  obtain ⟨a3, ea3, ba3⟩ := mul_sz (T := 1024) (by omega) (by omega) (by omega) (by omega) (by omega) (by omega) (by omega) ba2 bs4
  obtain ⟨a4, ea4, ba4⟩ := add_sz (by omega) (by omega) ba3 ((lit 0x3FD2492494229359 (by omega)).mono (by omega))
  obtain ⟨a5, ea5, ba5⟩ := mul_sz (T := 1025) (by omega) (by omega) (by omega) (by omega) (by omega) (by omega) (by omega) ba4 bs4
  obtain ⟨a6, ea6, ba6⟩ := add_sz (by omega) (by omega) ba5 ((lit 0x3FE5555555555593 (by omega)).mono (by omega))
  obtain ⟨t1, et1, bt1'⟩ := mul_sz (T := 1026) (by omega) (by omega) (by omega) (by omega) (by omega) (by omega) (by omega) bs2 ba6
  obtain ⟨c1, ec1, bc1⟩ := mul_sz (T := 1023) (by omega) (by omega) (by omega) (by omega) (by omega) (by omega) (by omega) (lit 0x3FC39A09D078C69F (by omega)) bs4
  obtain ⟨c2, ec2, bc2⟩ := add_sz (by omega) (by omega) bc1 (lit 0x3FCC71C51D8E78AF (by omega))
  obtain ⟨c3, ec3, bc3⟩ := mul_sz (T := 1024) (by omega) (by omega) (by omega) (by omega) (by omega) (by omega) (by omega) bc2 bs4
  obtain ⟨c4, ec4, bc4⟩ := add_sz (by omega) (by omega) bc3 ((lit 0x3FD999999997FA04 (by omega)).mono (by omega))
  obtain ⟨t2, et2, bt2'⟩ := mul_sz (T := 1025) (by omega) (by omega) (by omega) (by omega) (by omega) (by omega) (by omega) bs4 bc4
  obtain ⟨r, er, br⟩ := add_sz (by omega) (by omega) bt1' (bt2'.mono (by omega))
  obtain ⟨h2, eh2, bh2⟩ := mul_sz (T := 1023) (by omega) (by omega) (by omega) (by omega) (by omega) (by omega) (by omega) (lit Extern.MathAsm.half (by rw [hh]; omega)) bf
  obtain ⟨hq, ehq, bhq⟩ := mul_sz (T := 1023) (by omega) (by omega) (by omega) (by omega) (by omega) (by omega) (by omega) bh2 bf
  obtain ⟨i1, ei1, bi1⟩ := add_sz (by omega) (by omega) br (bhq.mono (by omega))
  obtain ⟨i2, ei2, bi2⟩ := mul_sz (T := 1028) (by omega) (by omega) (by omega) (by omega) (by omega) (by omega) (by omega) bs bi1
  obtain ⟨i3, ei3, bi3⟩ := mul_sz (T := 1002) (by omega) (by omega) (by omega) (by omega) (by omega) (by omega) (by omega) (Sz.lit 991 0x3DEA39EF35793C76 (by omega)) bk
  obtain ⟨i4, ei4, bi4⟩ := add_sz (by omega) (by omega) bi2 (bi3.mono (by omega))
  obtain ⟨j1, ej1, bj1⟩ := sub_sz (by omega) (by omega) (bhq.mono (show 1023 ≤ 1029 by omega)) bi4
  obtain ⟨j2, ej2, bj2⟩ := sub_sz (by omega) (by omega) bj1 (bf.mono (by omega))
  obtain ⟨j3, ej3, bj3⟩ := mul_sz (T := 1034) (by omega) (by omega) (by omega) (by omega) (by omega) (by omega) (by omega) bk (lit 0x3FE62E42FEE00000 (by omega))
  obtain ⟨z, ez, bz⟩ := sub_sz (by omega) (by omega) bj3 (bj2.mono (by omega))
  refine ⟨z, bz, fun P w => ?_⟩
  have g1 : (x % 2 ^ 63 == 0) = false := by rw [beq_eq_false_iff_ne]; omega
  have g2 : ¬ x ≥ 2 ^ 63 := by omega
  have hpi : Extern.MathAsm.posInf = 9218868437227405312 := rfl
  have g3 : ¬ x ≥ Extern.MathAsm.posInf := by omega
  have key : ∀ (a1 : Nat → Sem Value) (a2 : Array Value → Sem Value), Extern.MathLog.archLog.match_1 (fun _ => Sem Value) #[.float .f64 x] a1 a2 = a1 x := fun _ _ => rfl
  delta Extern.MathLog.archLog
  rw [key]
  simp only [g1, if_neg g2, if_neg g3, Bool.false_eq_true, if_false]
  rw [← hf1, ← hk0, ← hs, ← ho1]
  simp only [Sem.run_bind, Sem.run_pure, run_sub ek, run_add hd1, run_mul eg, ho ▸ run_sub ef, htw ▸ run_add et, run_div es, run_mul es2, run_mul es4, run_mul ea1, run_add ea2, run_mul ea3, run_add ea4, run_mul ea5, run_add ea6, run_mul et1, run_mul ec1, run_add ec2, run_mul ec3, run_add ec4, run_mul et2, run_add er, run_mul eh2, run_mul ehq, run_add ei1, run_mul ei2, run_mul ei3, run_add ei4, run_sub ej1, run_sub ej2, run_mul ej3, run_sub ez, Result.andThen]
end Fl
end Go.Proofs.YtellndmbllmjgaaGreatDoor
