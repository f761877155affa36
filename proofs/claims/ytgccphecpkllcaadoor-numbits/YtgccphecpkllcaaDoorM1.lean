/- The walk of mod by 2 to the 32nd. -/
import Derived.Test.YtgccphecpkllcaaDoorM0
import Derived.RegionTactic
set_option linter.unusedVariables false
namespace Go.Proofs.YtgccphecpkllcaaDoor
open Go.RowKit Go.Shelf Fl
theorem pow_mod32 (L : Nat) (h : 32 ≤ L) (n : Nat) (hn : 2 ^ L ≤ n) : (n - 2 ^ L) % 4294967296 = n % 4294967296 := by
  obtain ⟨d, rfl⟩ : ∃ d, L = 32 + d := ⟨L - 32, by omega⟩
  have e : (2 : Nat) ^ (32 + d) = 4294967296 * 2 ^ d := pow_split 32 d
  rw [e] at hn ⊢
  obtain ⟨c, rfl⟩ : ∃ c, n = 4294967296 * 2 ^ d + c := ⟨n - 4294967296 * 2 ^ d, by omega⟩
  rw [Nat.add_sub_cancel_left, Nat.mul_add_mod]
/-- What a round of mod does. -/
theorem round_step (n r : Nat) (h : Wd n r) (hb : 4294967296 ≤ n) : ∃ k f r', k ≤ 991 ∧ f < 4503599627370496 ∧ r = (k + 1055) * 4503599627370496 + f ∧ Ieee.double.sub r (rungI 4503599627370496 (k + 32)) = some r' ∧ r' < r ∧ ∃ n', Wd n' r' ∧ n' % 4294967296 = n % 4294967296 := by
  have hbig := h.big.2 hb
  rcases h with ⟨rfl, rfl⟩ | ⟨M, L, hN, hL, rfl⟩
  · omega
  · have h1 := hN.M_le
    have h2 := hN.M_lt
    have hL32 : 32 ≤ L := by
      unfold rungI at hbig
      omega
    obtain ⟨k, rfl⟩ : ∃ k, L = k + 32 := ⟨L - 32, by omega⟩
    refine ⟨k, M - 4503599627370496, ?_⟩
    have hr : rungI M (k + 32) = (k + 1055) * 4503599627370496 + (M - 4503599627370496) := by unfold rungI; omega
    by_cases hp : n = 2 ^ (k + 32)
    · have hM := (norm_eq_pow hN).1 hp
      subst hM
      refine ⟨0, by omega, by omega, hr, sub_pow _ hL, ?_, 0, Or.inl ⟨rfl, rfl⟩, ?_⟩
      · have := rungI_ge (L := k + 32) h1
        omega
      · have := pow_mod32 (k + 32) hL32 n (by omega)
        rw [hp] at this ⊢
        rw [← this, Nat.sub_self]
    · obtain ⟨M', L', hN', hl, hd⟩ := norm_less hN hp
      have h3 := hN'.M_lt
      refine ⟨rungI M' L', by omega, by omega, hr, sub_top hN hL hp hN' hl hd, ?_, n - 2 ^ (k + 32), Or.inr ⟨M', L', hN', by omega, rfl⟩, pow_mod32 (k + 32) hL32 n hN.2.1⟩
      unfold rungI
      omega
def fbits : Value → Nat
  | .float _ b => b
  | _ => 0
/-- What mod's calls answer ahead of its loop. -/
structure Ahead (x : Nat) : Prop where
  ci : ∀ w, Calls Tryd.prog 25 #[.float .f64 x, .int .i64 0] w fun e w' => e = .returned (.bool false) ∧ w' = w
  cq : ∀ w, Calls Tryd.prog 26 #[.float .f64 x] w fun e w' => e = .returned (.bool false) ∧ w' = w
  cq2 : ∀ w, Calls Tryd.prog 26 #[.float .f64 4751297606875873280] w fun e w' => e = .returned (.bool false) ∧ w' = w
  cy : ∀ w, Calls Tryd.prog 16 #[.float .f64 4751297606875873280] w fun e w' => e = .returned (.float .f64 4751297606875873280) ∧ w' = w
  cfy : ∀ w, Calls Tryd.prog 28 #[.float .f64 4751297606875873280] w fun e w' => e = .returned (.tuple #[.float .f64 4602678819172646912, .int .i64 33]) ∧ w' = w
theorem ahead (s : Bool) (r : Nat) (hlt : r < 9218868437227405312) : Ahead (wd s r) := by
  have cy := abs_any false 4751297606875873280 (by omega)
  have ci := isInf_any s r (by omega)
  have cq := isNaN_any (wd s r)
  have cq2 := isNaN_any 4751297606875873280
  have cfy := Frexp_any 4751297606875873280 1055 0 (by omega) (by omega) (by omega) (by omega)
  rw [wd_false] at cy
  have o2 : (FloatKind.f64.format.order r 9218868437227405311 == some .gt) = false := not_gt hlt (by omega) (by omega)
  have o3 : (FloatKind.f64.format.order (wd s r) (wd s r) != some .eq) = false := by
    have : FloatKind.f64.format.order (wd s r) (wd s r) = some (compare (key s r) (key s r)) := order_key s s r r hlt hlt
    rw [this, cmp_eq]; rfl
  have o4 : (FloatKind.f64.format.order 4751297606875873280 4751297606875873280 != some .eq) = false := by decide
  rw [o2] at ci
  rw [o3] at cq
  rw [o4] at cq2
  exact ⟨ci, cq, cq2, cy, cfy⟩
theorem y_zero : (FloatKind.f64.format.order 4751297606875873280 0 == some .eq) = false := by decide
set_option maxRecDepth 100000 in
set_option maxHeartbeats 1000000 in
theorem mod_small (x : Nat) (w : World) (A : Ahead x) (o5 : (FloatKind.f64.format.order x 0 == some .lt) = false) (o6 : (FloatKind.f64.format.order x 4751297606875873280 == some .gt) = false) (o7 : (FloatKind.f64.format.order x 4751297606875873280 == some .eq) = false) :
    Calls Tryd.prog 23 #[.float .f64 x, .float .f64 4751297606875873280] w fun e w' => e = .returned (.float .f64 x) ∧ w' = w := by
  obtain ⟨ci, cq, cq2, cy, cfy⟩ := A
  have o1 := y_zero
  go_enter Tryd.func23, Tryd.ntmps23
  go_wp2_with (first | (go_at_call 25; refine (ci _).mono ?_; rintro e w' ⟨rfl, rfl⟩) | (go_at_call 26; refine (cq _).mono ?_; rintro e w' ⟨rfl, rfl⟩) | (go_at_call 26; refine (cq2 _).mono ?_; rintro e w' ⟨rfl, rfl⟩) | (go_at_call 16; refine (cy _).mono ?_; rintro e w' ⟨rfl, rfl⟩) | (go_at_call 28; refine (cfy _).mono ?_; rintro e w' ⟨rfl, rfl⟩) | go_in)
  go_loopw [7] (fun i wr => i = .float .f64 x ∧ wr = w') (fun _ _ => 0)
  case atStart => exact ⟨rfl, rfl⟩
  case round =>
    obtain ⟨rfl, rfl⟩ := hrel
    go_wp2
    go_ret
    exact ⟨rfl, rfl⟩
set_option maxRecDepth 100000 in
set_option maxHeartbeats 2000000 in
/-- mod, of a number that isn't 0. -/
theorem mod_num (s : Bool) (n r x : Nat) (h : Wd n r) (w : World) (A : Ahead x) (hx : s = true → ∀ w, (Go.Op.unary .neg (.float .f64 x)).run Tryd.prog w = .ok (.float .f64 r) w) (hx2 : s = false → x = r) (o5 : (FloatKind.f64.format.order x 0 == some .lt) = s) :
    Calls Tryd.prog 23 #[.float .f64 x, .float .f64 4751297606875873280] w fun e w' => (∃ r', Wd (n % 4294967296) r' ∧ e = .returned (.float .f64 (wd s r'))) ∧ w' = w := by
  obtain ⟨ci, cq, cq2, cy, cfy⟩ := A
  have o1 := y_zero
  have HW : Hid (Wd n r) := h
  clear h
  cases s
  · obtain rfl := hx2 rfl
    clear hx hx2
    go_enter Tryd.func23, Tryd.ntmps23
    go_wp2_with (first | (go_at_call 25; refine (ci _).mono ?_; rintro e w' ⟨rfl, rfl⟩) | (go_at_call 26; refine (cq _).mono ?_; rintro e w' ⟨rfl, rfl⟩) | (go_at_call 26; refine (cq2 _).mono ?_; rintro e w' ⟨rfl, rfl⟩) | (go_at_call 16; refine (cy _).mono ?_; rintro e w' ⟨rfl, rfl⟩) | (go_at_call 28; refine (cfy _).mono ?_; rintro e w' ⟨rfl, rfl⟩) | go_in)
    go_loopw [7] (fun i wr => ∃ a b, i = .float .f64 b ∧ Wd a b ∧ a % 4294967296 = n % 4294967296 ∧ wr = w') (fun i _ => fbits i)
    case atStart => exact ⟨n, x, rfl, HW.out, rfl, rfl⟩
    case round =>
      obtain ⟨a, b, rfl, hab, hmod, rfl⟩ := hrel
      clear ci cq cq2 cy cfy HW
      have hlt := hab.lt
      by_cases hbig : 4294967296 ≤ a
      · obtain ⟨k, f, b', hk, hf, hb, hsub, hless, a', hab', hmod'⟩ := round_step a b hab hbig
        have cf := Frexp_any b (k + 1055) f hb hf (by omega) (by omega)
        have o6 : (FloatKind.f64.format.order b 4751297606875873280 == some .gt || FloatKind.f64.format.order b 4751297606875873280 == some .eq) = true := by
          have h1 := hab.big.2 hbig
          rcases Nat.lt_or_eq_of_le h1 with h2 | h2
          · rw [ord_gt hlt (by omega) h2]; rfl
          · rw [← h2, ord_eq (by omega)]; rfl
        have hs1 : ∀ t w, (binOp .sub t (.float .f64 b) (.float .f64 (rungI 4503599627370496 (k + 32)))).run Tryd.prog w = .ok (.float .f64 b') w := fun t w => run_float_arith w .sub t .f64 _ _ b' hsub
        have cl := Ldexp_any k hk
        have e1 : ((k + 1055 : Nat) : Int) - 1022 = (k : Int) + 33 := by omega
        rw [e1] at cf
        obtain ⟨t, ht⟩ : ∃ t, t = 1022 * 4503599627370496 + f := ⟨_, rfl⟩
        have o7 : (FloatKind.f64.format.order t 4602678819172646912 == some .lt) = false := not_lt (by omega) (by omega) (by omega)
        rw [← ht] at cf
        generalize rungI 4503599627370496 (k + 32) = p at *
        have HN : Hid (Wd a' b' ∧ a' % 4294967296 = n % 4294967296 ∧ b' < b) := ⟨hab', by rw [hmod', hmod], hless⟩
        clear hab hab' hmod hmod' hless hsub hb hf ht hbig hlt e1
        go_wp2_with (first | (go_at_call 28; refine (cf _).mono ?_; rintro e w' ⟨rfl, rfl⟩) | (go_at_call 29; refine (cl _).mono ?_; rintro e w' ⟨rfl, rfl⟩) | go_in)
        go_roundw
        case rel => exact ⟨a', b', rfl, HN.out.1, HN.out.2.1, trivial⟩
        case measure => exact HN.out.2.2
      · have o6 : (FloatKind.f64.format.order b 4751297606875873280 == some .gt || FloatKind.f64.format.order b 4751297606875873280 == some .eq) = false := by
          have h1 : b < 4751297606875873280 := by
            rcases Nat.lt_or_ge b 4751297606875873280 with h | h
            · exact h
            · exact absurd (hab.big.1 h) hbig
          rw [ord_lt hlt (by omega) h1]; rfl
        have HN : Hid (Wd (n % 4294967296) b) := by
          have : n % 4294967296 = a := by omega
          rw [this]
          exact hab
        clear hab hmod hlt hbig
        go_wp2
        go_ret
        exact ⟨⟨b, HN.out, by rw [wd_false]; rfl⟩, rfl⟩
  · replace hx := hx rfl
    clear hx2
    go_enter Tryd.func23, Tryd.ntmps23
    go_wp2_with (first | (go_at_call 25; refine (ci _).mono ?_; rintro e w' ⟨rfl, rfl⟩) | (go_at_call 26; refine (cq _).mono ?_; rintro e w' ⟨rfl, rfl⟩) | (go_at_call 26; refine (cq2 _).mono ?_; rintro e w' ⟨rfl, rfl⟩) | (go_at_call 16; refine (cy _).mono ?_; rintro e w' ⟨rfl, rfl⟩) | (go_at_call 28; refine (cfy _).mono ?_; rintro e w' ⟨rfl, rfl⟩) | go_in)
    go_loopw [7] (fun i wr => ∃ a b, i = .float .f64 b ∧ Wd a b ∧ a % 4294967296 = n % 4294967296 ∧ wr = w') (fun i _ => fbits i)
    case atStart => exact ⟨n, r, rfl, HW.out, rfl, rfl⟩
    case round =>
      obtain ⟨a, b, rfl, hab, hmod, rfl⟩ := hrel
      clear ci cq cq2 cy cfy HW
      have hlt := hab.lt
      by_cases hbig : 4294967296 ≤ a
      · obtain ⟨k, f, b', hk, hf, hb, hsub, hless, a', hab', hmod'⟩ := round_step a b hab hbig
        have cf := Frexp_any b (k + 1055) f hb hf (by omega) (by omega)
        have o6 : (FloatKind.f64.format.order b 4751297606875873280 == some .gt || FloatKind.f64.format.order b 4751297606875873280 == some .eq) = true := by
          have h1 := hab.big.2 hbig
          rcases Nat.lt_or_eq_of_le h1 with h2 | h2
          · rw [ord_gt hlt (by omega) h2]; rfl
          · rw [← h2, ord_eq (by omega)]; rfl
        have hs1 : ∀ t w, (binOp .sub t (.float .f64 b) (.float .f64 (rungI 4503599627370496 (k + 32)))).run Tryd.prog w = .ok (.float .f64 b') w := fun t w => run_float_arith w .sub t .f64 _ _ b' hsub
        have cl := Ldexp_any k hk
        have e1 : ((k + 1055 : Nat) : Int) - 1022 = (k : Int) + 33 := by omega
        rw [e1] at cf
        obtain ⟨t, ht⟩ : ∃ t, t = 1022 * 4503599627370496 + f := ⟨_, rfl⟩
        have o7 : (FloatKind.f64.format.order t 4602678819172646912 == some .lt) = false := not_lt (by omega) (by omega) (by omega)
        rw [← ht] at cf
        generalize rungI 4503599627370496 (k + 32) = p at *
        have HN : Hid (Wd a' b' ∧ a' % 4294967296 = n % 4294967296 ∧ b' < b) := ⟨hab', by rw [hmod', hmod], hless⟩
        clear hab hab' hmod hmod' hless hsub hb hf ht hbig hlt e1
        go_wp2_with (first | (go_at_call 28; refine (cf _).mono ?_; rintro e w' ⟨rfl, rfl⟩) | (go_at_call 29; refine (cl _).mono ?_; rintro e w' ⟨rfl, rfl⟩) | go_in)
        go_roundw
        case rel => exact ⟨a', b', rfl, HN.out.1, HN.out.2.1, trivial⟩
        case measure => exact HN.out.2.2
      · have o6 : (FloatKind.f64.format.order b 4751297606875873280 == some .gt || FloatKind.f64.format.order b 4751297606875873280 == some .eq) = false := by
          have h1 : b < 4751297606875873280 := by
            rcases Nat.lt_or_ge b 4751297606875873280 with h | h
            · exact h
            · exact absurd (hab.big.1 h) hbig
          rw [ord_lt hlt (by omega) h1]; rfl
        have HN : Hid (Wd (n % 4294967296) b) := by
          have : n % 4294967296 = a := by omega
          rw [this]
          exact hab
        have hn := run_neg false b (by omega)
        rw [wd_false, Bool.not_false] at hn
        obtain ⟨B, hB⟩ : ∃ B, B = wd true b := ⟨_, rfl⟩
        rw [← hB] at hn
        have HB : Hid (B = wd true b) := hB
        clear hB
        clear hab hmod hlt hbig
        go_wp2
        go_ret
        exact ⟨⟨b, HN.out, by rw [← HB.out]; rfl⟩, rfl⟩
end Go.Proofs.YtgccphecpkllcaaDoor
