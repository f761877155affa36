/- Precision of the document, without a power. -/
import Derived.Test.YtellndmbllmjgaaGreatDoorCDm4x
set_option linter.unusedVariables false
namespace Go.Proofs.YtellndmbllmjgaaGreatDoor
open Go.RowKit Go.Shelf Go.Sort Fs Fl Fl2

set_option maxRecDepth 100000 in
set_option maxHeartbeats 1000000 in
theorem precR_flat (r n : Nat) (z : Bool) (S0 : ByteArray) (D : List Nat) (p : Int) (hD : D.length = n) (hn0 : 1 ≤ n) (hn : n ≤ 21) (hz : z = false → D = List.replicate n 48 ∧ p = 1) (w : World) (hc6 : -6 ≤ p - 1) (hcn : p - 1 < (n : Int))
    (o2 : (FloatKind.f64.format.order r 0 != some .eq) = z)
    (o4 : (FloatKind.f64.format.order r 0 == some .lt) = false) (o5 : (FloatKind.f64.format.order r 0 == some .gt) = z)
    (co : ∀ w, Calls Tryz.prog 30 #[.float .f64 r] w fun e w' => e = .returned (.tuple #[.string S0, .bool (!z)]) ∧ w' = w)
    (cn : z = true → Calls Tryz.prog 62 #[.float .f64 r, .int .i64 (n : Int)] w fun e w' => e = .returned (.tuple #[.string (txt D), .int .i64 p]) ∧ Below w.heap.size w w') :
    Calls Tryz.prog 21 #[.float .f64 r, .int .i64 (n : Int)] w fun e w' => e = .returned (.tuple #[.string (txt (ptd D ((n : Int) - p).toNat)), .bool true]) ∧ Below w.heap.size w w' := by
  have k2 : ¬ (21 : Int) < (n : Int) := by omega
  have k0 : ¬ (n : Int) < 1 := by omega
  have k6 : ¬ p - 1 < -6 := by omega
  have kn : ¬ (n : Int) ≤ p - 1 := by omega
  have c2 := fun w => zeros_any n (by omega) w
  obtain ⟨U2, hU2⟩ : ∃ U2, U2 = txt (List.replicate n 48) := ⟨_, rfl⟩
  rw [← hU2] at c2
  have HU2 : Hid (U2 = txt (List.replicate n 48)) := hU2
  obtain ⟨U, hU⟩ : ∃ U, U = txt D := ⟨_, rfl⟩
  have hUs : U.size = n := by rw [hU, txt_size, hD]
  have HU : Hid (U = txt D) := hU
  rw [← hU] at cn
  have HN := (show Hid _ from cn)
  have HZ := (show Hid _ from hz)
  obtain ⟨A, hA⟩ : ∃ A, A = txt (ptd D ((n : Int) - p).toNat) := ⟨_, rfl⟩
  rw [← hA]
  have HA : Hid (A = txt (ptd D ((n : Int) - p).toNat)) := hA
  have hwp : IntKind.i64.wrap (p - 1) = p - 1 := by rw [IntKind.wrap_i64]; omega
  have HD : Hid (D.length = n) := hD
  clear hU2 hU cn hz hA hD hc6 hcn
  have hd : z = false → U2 = U := fun h => by rw [HU2.out, HU.out, (HZ.out h).1]
  have HDD := (show Hid _ from hd)
  clear hd
  by_cases hpn : p = (n : Int)
  · subst hpn
    have HE : Hid (A = U) := by
      show A = U
      rw [HA.out, HU.out]
      have e0 : ((n : Int) - (n : Int)).toNat = 0 := by omega
      rw [e0]
      unfold ptd padD
      rw [if_pos rfl, if_neg (by have := HD.out; omega)]
    have ke : ((n : Int) - 1 == (n : Int) - 1) = true := by simp
    cases z
    · have hn1 : n = 1 := by have := (HZ.out rfl).2; omega
      subst hn1
      have h2 := HDD.out rfl
      subst h2
      have co' : ∀ w, Calls Tryz.prog 30 #[.float .f64 r] w fun e w' => e = .returned (.tuple #[.string S0, .bool true]) ∧ w' = w := co
      clear co HN HZ HDD
      have c2' : ∀ w, Calls Tryz.prog 35 #[.int .i64 1] w fun e w' => e = .returned (.string U2) ∧ w' = w := c2
      clear c2
      have HX : Hid True := trivial
      go_enter Tryz.func21, Tryz.ntmps21
      go_wp2_with (first | (go_at_call 30; refine (co' _).mono ?_; rintro e w1 ⟨rfl, rfl⟩) | (go_at_call 35; refine (c2' _).mono ?_; rintro e w1 ⟨rfl, rfl⟩))
      go_ret2
      exact ⟨by rw [HE.out]; rfl, Below.refl _ _⟩
    · have co' : ∀ w, Calls Tryz.prog 30 #[.float .f64 r] w fun e w' => e = .returned (.tuple #[.string S0, .bool false]) ∧ w' = w := co
      have CN : Hid (Calls Tryz.prog 62 #[.float .f64 r, .int .i64 (n : Int)] w fun e w' => e = .returned (.tuple #[.string U, .int .i64 (n : Int)]) ∧ Below w.heap.size w w') := HN.out rfl
      clear co HN HZ HDD
      go_enter Tryz.func21, Tryz.ntmps21
      go_wp2_with (first | (go_at_call 30; refine (co' _).mono ?_; rintro e w1 ⟨rfl, rfl⟩) | (go_at_call 35; refine (c2 _).mono ?_; rintro e w1 ⟨rfl, rfl⟩) | (go_at_call 62; fail))
      have cn := CN.out
      clear CN
      go_fit cn
      rintro e w3 ⟨rfl, hb3⟩
      clear cn
      go_wp2
      go_ret2
      exact ⟨by rw [HE.out]; rfl, hb3⟩
  · have ke : (p - 1 == (n : Int) - 1) = false := by rw [beq_eq_false_iff_ne]; omega
    rcases Int.lt_or_le 0 p with hp | hp
    · obtain ⟨j, rfl⟩ : ∃ j : Nat, p = (j : Int) := ⟨p.toNat, by omega⟩
      have hj0 : 0 < j := by omega
      have hjn : j < n := by omega
      have k1 : (0 : Int) ≤ (j : Int) - 1 := by omega
      have kj : (j : Int) ≤ (n : Int) := by omega
      have HE : Hid (A = U.extract 0 j ++ ⟨#[46]⟩ ++ U.extract j n) := by
        show A = U.extract 0 j ++ ⟨#[46]⟩ ++ U.extract j n
        have h1 := HD.out
        have e0 : ((n : Int) - (j : Int)).toNat = n - j := by omega
        have h3 := ext_txt D j (by omega)
        rw [h1] at h3
        rw [HA.out, HU.out, h3, e0, ptd_eq, if_neg (by omega)]
        unfold padD
        rw [if_neg (by omega), h1, show n - (n - j) = j by omega]
      cases z
      · have hp1 : j = 1 := by have := (HZ.out rfl).2; omega
        subst hp1
        have h2 := HDD.out rfl
        subst h2
        have co' : ∀ w, Calls Tryz.prog 30 #[.float .f64 r] w fun e w' => e = .returned (.tuple #[.string S0, .bool true]) ∧ w' = w := co
        have ke' : ((0 : Int) == (n : Int) - 1) = false := by rw [beq_eq_false_iff_ne]; omega
        clear co HN HZ HDD
        go_enter Tryz.func21, Tryz.ntmps21
        go_wp2_with (first | (go_at_call 30; refine (co' _).mono ?_; rintro e w1 ⟨rfl, rfl⟩) | (go_at_call 35; refine (c2 _).mono ?_; rintro e w1 ⟨rfl, rfl⟩))
        go_quiet (fail)
        go_wp2
        go_ret2
        exact ⟨by rw [HE.out]; rfl, below_drewN (Below.refl _ _)⟩
      · have co' : ∀ w, Calls Tryz.prog 30 #[.float .f64 r] w fun e w' => e = .returned (.tuple #[.string S0, .bool false]) ∧ w' = w := co
        have CN : Hid (Calls Tryz.prog 62 #[.float .f64 r, .int .i64 (n : Int)] w fun e w' => e = .returned (.tuple #[.string U, .int .i64 (j : Int)]) ∧ Below w.heap.size w w') := HN.out rfl
        clear co HN HZ HDD
        go_enter Tryz.func21, Tryz.ntmps21
        go_wp2_with (first | (go_at_call 30; refine (co' _).mono ?_; rintro e w1 ⟨rfl, rfl⟩) | (go_at_call 35; refine (c2 _).mono ?_; rintro e w1 ⟨rfl, rfl⟩) | (go_at_call 62; fail))
        have cn := CN.out
        clear CN
        go_fit cn
        rintro e w3 ⟨rfl, hb3⟩
        clear cn
        go_wp2
        go_quiet (fail)
        go_wp2
        go_ret2
        exact ⟨by rw [HE.out]; rfl, below_drewN hb3⟩
    · obtain ⟨j, rfl⟩ : ∃ j : Nat, p = -(j : Int) := ⟨(-p).toNat, by omega⟩
      have k1 : ¬ (0 : Int) ≤ -(j : Int) - 1 := by omega
      have hzt : z = true := by
        cases z
        · have := (HZ.out rfl).2; omega
        · rfl
      subst hzt
      have cz := fun w => zeros_any j (by omega) w
      have hZs := txt_size (List.replicate j 48)
      rw [List.length_replicate] at hZs
      obtain ⟨Z, hZ⟩ : ∃ Z, Z = txt (List.replicate j 48) := ⟨_, rfl⟩
      rw [← hZ] at hZs cz
      have HZZ : Hid (Z = txt (List.replicate j 48)) := hZ
      have hj6 : j ≤ 6 := by omega
      have HE : Hid (A = ⟨#[48, 46]⟩ ++ Z ++ U) := by
        show A = ⟨#[48, 46]⟩ ++ Z ++ U
        have h1 := HD.out
        have e0 : ((n : Int) - -(j : Int)).toNat = n + j := by omega
        have e1 : (⟨#[48, 46]⟩ : ByteArray) = txt [48, 46] := rfl
        rw [HA.out, HU.out, HZZ.out, e0, e1, txt_append, txt_append, ptd_eq, if_neg (by omega)]
        unfold padD
        rw [if_pos (by omega), h1, show n + j + 1 - n = j + 1 by omega, List.length_append, List.length_replicate, h1, show j + 1 + n - (n + j) = 1 by omega]
        rfl
      have co' : ∀ w, Calls Tryz.prog 30 #[.float .f64 r] w fun e w' => e = .returned (.tuple #[.string S0, .bool false]) ∧ w' = w := co
      have CN : Hid (Calls Tryz.prog 62 #[.float .f64 r, .int .i64 (n : Int)] w fun e w' => e = .returned (.tuple #[.string U, .int .i64 (-(j : Int))]) ∧ Below w.heap.size w w') := HN.out rfl
      have hwj : IntKind.i64.wrap (-(-(j : Int))) = (j : Int) := by rw [IntKind.wrap_i64]; omega
      have CZ := (show Hid _ from cz)
      clear co HN HZ HDD hZ cz
      go_enter Tryz.func21, Tryz.ntmps21
      go_wp2_with (first | (go_at_call 30; refine (co' _).mono ?_; rintro e w1 ⟨rfl, rfl⟩) | (go_at_call 35; refine (c2 _).mono ?_; rintro e w1 ⟨rfl, rfl⟩) | (go_at_call 62; fail))
      have cn := CN.out
      clear CN
      go_fit cn
      rintro e w3 ⟨rfl, hb3⟩
      have cz := CZ.out w3
      clear cn CZ c2
      go_wp2_with (first | (go_at_call 35; fail))
      go_fit cz
      rintro e w4 ⟨rfl, rfl⟩
      clear cz
      go_wp2
      go_ret2
      exact ⟨by rw [HE.out]; rfl, hb3⟩
end Go.Proofs.YtellndmbllmjgaaGreatDoor
/- Rounded to digits: program and document. -/
set_option linter.unusedVariables false
namespace Go.Proofs.YtellndmbllmjgaaGreatDoor
open Go.RowKit Go.Shelf Go.Sort Fs Fl Fl2

/-- Where the point stands. -/
def IsPt (r : Nat) (p : Int) : Prop := L10 (magR r) (expR r) p ∧ ¬ L10 (magR r) (expR r) (p - 1)
theorem l10_mono {M E : Nat} {p q : Int} (h : L10 M E p) (hpq : p ≤ q) : L10 M E q := by
  obtain ⟨c, hc⟩ : ∃ c : Nat, q ≤ (c : Int) := ⟨q.toNat, by omega⟩
  rw [l10_ts (c := c) (by omega)] at h ⊢
  obtain ⟨j, hj⟩ : ∃ j : Nat, q = p + (j : Int) := ⟨(q - p).toNat, by omega⟩
  have e1 := ts_add M E c (-q) j (by omega)
  rw [show -q + (j : Int) = -p by omega] at e1
  rw [e1] at h
  exact Nat.lt_of_le_of_lt (Nat.le_mul_of_pos_right _ (Nat.pow_pos (by omega))) h
theorem pt_one {r : Nat} {p q : Int} (h : IsPt r p) (k : IsPt r q) : p = q := by
  rcases Int.lt_trichotomy p q with h1 | h1 | h1
  · exact absurd (l10_mono h.1 (show p ≤ q - 1 by omega)) k.2
  · exact h1
  · exact absurd (l10_mono k.1 (show q ≤ p - 1 by omega)) h.2
theorem pt_is {r X k : Nat} (h : ExD r X k) (hX : 0 < X) : IsPt r ((Lib.nDigits X : Int) - (k : Int)) := by
  have ha := ab_eq h
  have a1 := pow_digits X hX
  have a2 := lt_digits X
  have hnp := Lib.nDigits_pos X
  obtain ⟨c, hc⟩ : ∃ c : Nat, c = Lib.nDigits X + k := ⟨_, rfl⟩
  constructor
  · rw [l10_x ha c (by omega), show ((c : Int) - ((Lib.nDigits X : Int) - (k : Int))).toNat = c + k - Lib.nDigits X by omega]
    refine Nat.lt_of_lt_of_le (Nat.mul_lt_mul_of_pos_right a2 (Nat.pow_pos (by omega))) ?_
    rw [← Nat.pow_add]
    exact Nat.pow_le_pow_right (by omega) (by omega)
  · rw [l10_x ha c (by omega), show ((c : Int) - ((Lib.nDigits X : Int) - (k : Int) - 1)).toNat = c + k - (Lib.nDigits X - 1) by omega]
    apply Nat.not_lt_of_le
    refine Nat.le_trans ?_ (Nat.mul_le_mul_right _ a1)
    rw [← Nat.pow_add]
    exact Nat.pow_le_pow_right (by omega) (by omega)
theorem pt_bounds {r : Nat} {p : Int} (h0 : 0 < r) (hf : r < 9218868437227405312) (h : IsPt r p) : -400 < p ∧ p ≤ 400 := by
  have hM0 : 0 < magR r := by have := magR_zero (r := r); omega
  have hel : expR r ≤ 2045 := by unfold expR; omega
  constructor
  · rcases Int.lt_or_le (-400) p with h1 | h1
    · exact h1
    · exact absurd h.1 (l10_lo hM0 h1)
  · rcases Int.lt_or_le p 401 with h1 | h1
    · omega
    · exact absurd (l10_hi (magR_lt r) hel (by omega)) h.2
/-- n digits, and where the point then stands. -/
def rdD (r n : Nat) (p : Int) : List Nat := decN (if rnR r (n - p) = 10 ^ n then 10 ^ (n - 1) else rnR r (n - p))
def rdP (r n : Nat) (p : Int) : Int := p + (if rnR r (n - p) = 10 ^ n then 1 else 0)
theorem rd_len {r n : Nat} {p : Int} (h0 : 0 < r) (hf : r < 9218868437227405312) (h : IsPt r p) (hn : 1 ≤ n) (hn2 : n ≤ 60) : (rdD r n p).length = n := by
  obtain ⟨b1, b2⟩ := pt_bounds h0 hf h
  obtain ⟨c1, c2⟩ := rr_bounds (M := magR r) (E := expR r) hn hn2 h.1 h.2 (by omega) (by omega)
  unfold rdD
  rw [decN_length]
  have e : rnR r (n - p) = (2 * pS (magR r) (expR r) (n - p) + qS (expR r) (n - p)) / (2 * qS (expR r) (n - p)) := rfl
  rw [← e] at c1 c2
  split
  · exact nDigits_of _ n hn (Nat.le_refl _) (Nat.pow_lt_pow_right (by omega) (by omega))
  · exact nDigits_of _ n hn c1 (by omega)
/-- **rounded, of the program, over the document's numbers.** -/
theorem roundP_any (r X k n : Nat) (h : ExD r X k) (hX : 0 < X) (hd : Lib.nDigits X ≤ 6401) (hk : k ≤ 1074) (hn : 1 ≤ n) (hn2 : n ≤ 60) (w : World) :
    Calls Tryz.prog 110 #[.agg #[.string (txt (decN X)), .int .i64 ((Lib.nDigits X : Int) - (k : Int))], .int .i64 (n : Int)] w fun e w' => e = .returned (.agg #[.string (txt (rdD r n ((Lib.nDigits X : Int) - (k : Int)))), .int .i64 (rdP r n ((Lib.nDigits X : Int) - (k : Int)))]) ∧ Below w.heap.size w w' := by
  have he : rnR r ((n : Int) - ((Lib.nDigits X : Int) - (k : Int))) = rndX X (Lib.nDigits X) n := rnd_eq (ab_eq h) n 8000 _ rfl (by omega)
  unfold rdD rdP
  rw [he]
  exact rounded_any X hX (by omega) _ (by omega) (by omega) n hn (by omega) w
/-- **rounded, of the document.** -/
theorem roundD_any (r n : Nat) (p : Int) (h0 : 0 < r) (hf : r < 9218868437227405312) (hp : IsPt r p) (hn : 1 ≤ n) (hn2 : n ≤ 21) (w : World) :
    Calls Tryz.prog 62 #[.float .f64 r, .int .i64 (n : Int)] w fun e w' => e = .returned (.tuple #[.string (txt (rdD r n p)), .int .i64 (rdP r n p)]) ∧ Below w.heap.size w w' := by
  refine (roundR_any r n h0 hf hn hn2 w).mono ?_
  rintro e w' ⟨q, R, h1, h2, h3, rfl, hb⟩
  have hq : q = p := pt_one ⟨h1, h2⟩ hp
  subst hq
  refine ⟨?_, hb⟩
  have e : R = rnR r ((n : Int) - q) := h3
  subst e
  rfl
end Go.Proofs.YtellndmbllmjgaaGreatDoor
/- Exponential and Precision of the program, put together. -/
set_option linter.unusedVariables false
namespace Go.Proofs.YtellndmbllmjgaaGreatDoor
open Go.RowKit Go.Shelf Go.Sort Fs Fl Fl2

theorem pwd_len (D : List Nat) (x : Int) (hD : D.length ≤ 25) (h1 : -1000 ≤ x) (h2 : x ≤ 1000) : (pwd D x).length ≤ 80 := by
  unfold pwd
  have hl := ptd_len D (D.length - 1)
  have hd : Lib.nDigits x.natAbs ≤ 4 := nDigits_le _ 4 (by omega) (by omega)
  simp only [List.length_append, List.length_cons, List.length_nil, decN_length]
  omega
/-- What Precision says of digits and a point. -/
def precL (D : List Nat) (n : Nat) (m : Int) : List Nat := if m - 1 < -6 ∨ (n : Int) ≤ m - 1 then pwd D (m - 1) else ptd D ((n : Int) - m).toNat
theorem rdP_bounds {r n : Nat} {p : Int} (h0 : 0 < r) (hf : r < 9218868437227405312) (h : IsPt r p) : -400 ≤ rdP r n p ∧ rdP r n p ≤ 401 := by
  obtain ⟨b1, b2⟩ := pt_bounds h0 hf h
  unfold rdP
  split <;> omega
theorem powered_at (D : List Nat) (m : Int) (h1 : 0 < D.length) (h2 : D.length ≤ 1000) (hx : -900 ≤ m) (hx2 : m ≤ 900) (w : World) (hlaid : Laid w) :
    Calls Tryz.prog 29 #[.agg #[.string (txt D), .int .i64 m]] w fun rr w' => rr = .returned (.string (txt (pwd D (m - 1)))) ∧ Below w.heap.size w w' := by
  have := powered_any D (m - 1) h1 h2 (by omega) (by omega) w hlaid
  rw [show m - 1 + 1 = m by omega] at this
  exact this
/-- What exact hands on. -/
def ExS (r : Nat) (S : ByteArray) (m : Int) : Prop := ∃ X k, ExD r X k ∧ k ≤ 1074 ∧ Lib.nDigits X ≤ 6401 ∧ 0 < X ∧ S = txt (decN X) ∧ m = (Lib.nDigits X : Int) - (k : Int)
theorem exS_any (hC : PartC) (r : Nat) (h0 : 0 < r) (hf : r < 9218868437227405312) (w W : World) (hT : TabAt 4 Lib.deBruijn64tab w) (hW : Below w.heap.size w W) :
    Calls Tryz.prog 106 #[.float .f64 r] W fun e w' => ∃ S m, ExS r S m ∧ e = .returned (.agg #[.string S, .int .i64 m]) ∧ Below W.heap.size W w' := by
  refine (exactD_any hC r hf W (tab_below hT hW)).mono ?_
  rintro e w' ⟨X, k, a1, a2, a3, a4, a5, rfl, hb⟩
  exact ⟨_, _, ⟨X, k, a1, a2, a3, a5 h0, rfl, rfl⟩, rfl, hb⟩
/-- What rounded hands on. -/
def RdS (r n : Nat) (S : ByteArray) (m : Int) : Prop := ∃ p, IsPt r p ∧ S = txt (rdD r n p) ∧ m = rdP r n p
theorem rdS_any (r n : Nat) (hn : 1 ≤ n) (hn2 : n ≤ 60) (S : ByteArray) (m : Int) (h : ExS r S m) (W : World) :
    Calls Tryz.prog 110 #[.agg #[.string S, .int .i64 m], .int .i64 (n : Int)] W fun e w' => ∃ S2 m2, RdS r n S2 m2 ∧ e = .returned (.agg #[.string S2, .int .i64 m2]) ∧ Below W.heap.size W w' := by
  obtain ⟨X, k, a1, a2, a3, a4, rfl, rfl⟩ := h
  refine (roundP_any r X k n a1 a4 a3 a2 hn hn2 W).mono ?_
  rintro e w' ⟨rfl, hb⟩
  exact ⟨_, _, ⟨_, pt_is a1 a4, rfl, rfl⟩, rfl, hb⟩
/-- **Exponential of the program.** -/
theorem expP_mid (hC : PartC) (s : Bool) (r n : Nat) (h0 : 0 < r) (hf : r < 9218868437227405312) (hn : n ≤ 20) (w : World) (hT : TabAt 4 Lib.deBruijn64tab w) (hL : Laid w) :
    Calls Tryz.prog 57 #[.float .f64 (wd s r), .int .i64 (n : Int)] w fun e w' => ∃ p, IsPt r p ∧ e = .returned (.tuple #[.string (txt ((if s then [45] else []) ++ pwd (rdD r (n + 1) p) (rdP r (n + 1) p - 1))), .nilIface]) ∧ Below w.heap.size w w' := by
  have hlz := lt_zero s r hf
  rw [decide_eq_true (show r ≠ 0 by omega), Bool.and_true] at hlz
  have c := expW_of (wd s r) r (txt (if s then [45] else [])) n hn (by rw [txt_size]; split <;> simp) (ExS r) (RdS r (n + 1))
    (fun T => ∃ p, IsPt r p ∧ T = txt (pwd (rdD r (n + 1) p) (rdP r (n + 1) p - 1))) w
    (finite_yes s r hf) (minus_any (wd s r) s hlz) (abs_any s r (by omega)) (exS_any hC r h0 hf w w hT (Below.refl _ _))
    (fun S m hS W => rdS_any r (n + 1) (by omega) (by omega) S m hS W)
    (fun S m hS W hW => by
      obtain ⟨p, hp, rfl, rfl⟩ := hS
      obtain ⟨b1, b2⟩ := rdP_bounds (n := n + 1) h0 hf hp
      have hl := rd_len h0 hf hp (show 1 ≤ n + 1 by omega) (by omega)
      refine (powered_at _ _ (by omega) (by omega) (by omega) (by omega) W (hL.below hW)).mono ?_
      rintro e w' ⟨rfl, hb⟩
      refine ⟨_, ⟨p, hp, rfl⟩, ?_, rfl, hb⟩
      rw [txt_size]
      have := pwd_len (rdD r (n + 1) p) (rdP r (n + 1) p - 1) (by omega) (by omega) (by omega)
      omega)
  refine c.mono ?_
  rintro e w' ⟨T, ⟨p, hp, rfl⟩, rfl, hb⟩
  rw [txt_append]
  exact ⟨p, hp, rfl, hb⟩
/-- **Precision of the program.** -/
theorem precP_mid (hC : PartC) (s : Bool) (r n : Nat) (h0 : 0 < r) (hf : r < 9218868437227405312) (hn0 : 1 ≤ n) (hn : n ≤ 21) (w : World) (hT : TabAt 4 Lib.deBruijn64tab w) (hL : Laid w) :
    Calls Tryz.prog 58 #[.float .f64 (wd s r), .int .i64 (n : Int)] w fun e w' => ∃ p, IsPt r p ∧ e = .returned (.tuple #[.string (txt ((if s then [45] else []) ++ precL (rdD r n p) n (rdP r n p))), .nilIface]) ∧ Below w.heap.size w w' := by
  have hlz := lt_zero s r hf
  rw [decide_eq_true (show r ≠ 0 by omega), Bool.and_true] at hlz
  have c := precW_of (wd s r) r (txt (if s then [45] else [])) n hn0 hn (by rw [txt_size]; split <;> simp) (ExS r) (RdS r n)
    (fun S m hS => by obtain ⟨p, hp, _, rfl⟩ := hS; have := rdP_bounds (n := n) h0 hf hp; omega)
    (fun T => ∃ p, IsPt r p ∧ T = txt (precL (rdD r n p) n (rdP r n p))) w
    (finite_yes s r hf) (minus_any (wd s r) s hlz) (abs_any s r (by omega)) (fun W hW => exS_any hC r h0 hf w W hT hW)
    (fun S m hS W => rdS_any r n hn0 (by omega) S m hS W)
    (fun S m hS hc W hW => by
      obtain ⟨p, hp, rfl, rfl⟩ := hS
      obtain ⟨b1, b2⟩ := rdP_bounds (n := n) h0 hf hp
      have hl := rd_len h0 hf hp hn0 (by omega)
      refine (powered_at _ _ (by omega) (by omega) (by omega) (by omega) W (hL.below hW)).mono ?_
      rintro e w' ⟨rfl, hb⟩
      refine ⟨_, ⟨p, hp, ?_⟩, ?_, rfl, hb⟩
      · unfold precL
        rw [if_pos hc]
      · rw [txt_size]
        have := pwd_len (rdD r n p) (rdP r n p - 1) (by omega) (by omega) (by omega)
        omega)
    (fun S m hS hc W => by
      obtain ⟨p, hp, rfl, rfl⟩ := hS
      have hl := rd_len h0 hf hp hn0 (by omega)
      obtain ⟨j, hj⟩ : ∃ j : Nat, (n : Int) - rdP r n p = (j : Int) := ⟨((n : Int) - rdP r n p).toNat, by omega⟩
      rw [hj]
      refine (pointed_any (rdD r n p) j (by omega) (by omega) (by omega) W).mono ?_
      rintro e w' ⟨rfl, hb⟩
      refine ⟨_, ⟨p, hp, ?_⟩, ?_, rfl, hb⟩
      · unfold precL
        rw [if_neg hc, hj, Int.toNat_natCast]
      · rw [txt_size]
        have := ptd_len (rdD r n p) j
        omega)
  refine c.mono ?_
  rintro e w' ⟨T, ⟨p, hp, rfl⟩, rfl, hb⟩
  rw [txt_append]
  exact ⟨p, hp, rfl, hb⟩
end Go.Proofs.YtellndmbllmjgaaGreatDoor
/- Exponential and Precision of the document, put together. -/
set_option linter.unusedVariables false
namespace Go.Proofs.YtellndmbllmjgaaGreatDoor
open Go.RowKit Go.Shelf Go.Sort Fs Fl Fl2

theorem ne_zero (s : Bool) (r : Nat) (h : r < 9218868437227405312) : (FloatKind.f64.format.order (wd s r) 0 != some .eq) = decide (r ≠ 0) := by
  have := eq_zero s r h
  show (!(FloatKind.f64.format.order (wd s r) 0 == some .eq)) = _
  rw [this]
  by_cases hr : r = 0 <;> simp [hr]
theorem odd_neg (r : Nat) (h0 : 0 < r) (hf : r < 9218868437227405312) (w : World) : Calls Tryz.prog 30 #[.float .f64 (wd true r)] w fun e w' => e = .returned (.tuple #[.string ⟨#[]⟩, .bool false]) ∧ w' = w := by
  have o1 := num_self true r hf
  have o3 := eq_zero true r hf
  exact odd_no _ o1 (by rw [o3]; exact decide_eq_false (by omega)) (order_max true r hf) (order_nmax2 true r hf) w
/-- **Exponential of the document.** -/
theorem expD_mid (s : Bool) (r n : Nat) (p : Int) (h0 : 0 < r) (hf : r < 9218868437227405312) (hn : n ≤ 20) (hp : IsPt r p) (w : World) :
    Calls Tryz.prog 20 #[.float .f64 (wd s r), .int .i64 (n : Int)] w fun e w' => e = .returned (.tuple #[.string (txt ((if s then [45] else []) ++ pwd (rdD r (n + 1) p) (rdP r (n + 1) p - 1))), .bool true]) ∧ Below w.heap.size w w' := by
  have hl := rd_len h0 hf hp (show 1 ≤ n + 1 by omega) (by omega)
  obtain ⟨b1, b2⟩ := rdP_bounds (n := n + 1) h0 hf hp
  have pos : Calls Tryz.prog 20 #[.float .f64 r, .int .i64 (n : Int)] w fun e w' => e = .returned (.tuple #[.string (txt (pwd (rdD r (n + 1) p) (rdP r (n + 1) p - 1))), .bool true]) ∧ Below w.heap.size w w' := by
    have o2 := ne_zero false r hf
    have o4 := lt_zero false r hf
    have o5 := gt_zero false r hf
    rw [wd_false] at o2 o4 o5
    rw [decide_eq_true (show r ≠ 0 by omega)] at o2 o5
    exact expR_mid r n true ⟨#[]⟩ (rdD r (n + 1) p) (rdP r (n + 1) p) (by omega) (by omega) (by omega) (by omega) hn (fun e => by cases e) w o2 o4 o5 (fun w => odd_pos r h0 hf w) (fun _ => roundD_any r (n + 1) p h0 hf hp (by omega) (by omega) w)
  cases s
  · rw [wd_false]
    exact pos
  · have o4 := lt_zero true r hf
    rw [decide_eq_true (show r ≠ 0 by omega)] at o4
    have hng := run_neg true r (by omega)
    rw [Bool.not_true, wd_false] at hng
    have hpl := pwd_len (rdD r (n + 1) p) (rdP r (n + 1) p - 1) (by omega) (by omega) (by omega)
    refine (expR_neg (wd true r) r (n : Int) _ (by rw [txt_size]; omega) (by omega) w o4 hng (fun w => odd_neg r h0 hf w) pos).mono ?_
    rintro e w' ⟨rfl, hb⟩
    refine ⟨?_, hb⟩
    rw [txt_m, txt_append]
    rfl
theorem precL_len (D : List Nat) (n : Nat) (m : Int) (hD : D.length ≤ 25) (hn : n ≤ 25) (h1 : -900 ≤ m) (h2 : m ≤ 900) : (precL D n m).length ≤ 1000 := by
  unfold precL
  split
  · have := pwd_len D (m - 1) hD (by omega) (by omega)
    omega
  · have := ptd_len D ((n : Int) - m).toNat
    omega
/-- **Precision of the document.** -/
theorem precD_mid (s : Bool) (r n : Nat) (p : Int) (h0 : 0 < r) (hf : r < 9218868437227405312) (hn0 : 1 ≤ n) (hn : n ≤ 21) (hp : IsPt r p) (w : World) :
    Calls Tryz.prog 21 #[.float .f64 (wd s r), .int .i64 (n : Int)] w fun e w' => e = .returned (.tuple #[.string (txt ((if s then [45] else []) ++ precL (rdD r n p) n (rdP r n p))), .bool true]) ∧ Below w.heap.size w w' := by
  have hl := rd_len h0 hf hp hn0 (by omega)
  obtain ⟨b1, b2⟩ := rdP_bounds (n := n) h0 hf hp
  have pos : Calls Tryz.prog 21 #[.float .f64 r, .int .i64 (n : Int)] w fun e w' => e = .returned (.tuple #[.string (txt (precL (rdD r n p) n (rdP r n p))), .bool true]) ∧ Below w.heap.size w w' := by
    have o2 := ne_zero false r hf
    have o4 := lt_zero false r hf
    have o5 := gt_zero false r hf
    rw [wd_false] at o2 o4 o5
    rw [decide_eq_true (show r ≠ 0 by omega)] at o2 o5
    unfold precL
    split
    · rename_i hc
      exact precR_pow r n true ⟨#[]⟩ (rdD r n p) (rdP r n p) hl (by omega) (by omega) hn0 hn (fun e => by cases e) w hc o2 o4 o5 (fun w => odd_pos r h0 hf w) (fun _ => roundD_any r n p h0 hf hp hn0 hn w)
    · rename_i hc
      exact precR_flat r n true ⟨#[]⟩ (rdD r n p) (rdP r n p) hl hn0 hn (fun e => by cases e) w (by omega) (by omega) o2 o4 o5 (fun w => odd_pos r h0 hf w) (fun _ => roundD_any r n p h0 hf hp hn0 hn w)
  cases s
  · rw [wd_false]
    exact pos
  · have o4 := lt_zero true r hf
    rw [decide_eq_true (show r ≠ 0 by omega)] at o4
    have hng := run_neg true r (by omega)
    rw [Bool.not_true, wd_false] at hng
    have hpl := precL_len (rdD r n p) n (rdP r n p) (by omega) (by omega) (by omega) (by omega)
    refine (precR_neg (wd true r) r (n : Int) _ (by rw [txt_size]; omega) (by omega) (by omega) w o4 hng (fun w => odd_neg r h0 hf w) pos).mono ?_
    rintro e w' ⟨rfl, hb⟩
    refine ⟨?_, hb⟩
    rw [txt_m, txt_append]
    rfl
end Go.Proofs.YtellndmbllmjgaaGreatDoor
