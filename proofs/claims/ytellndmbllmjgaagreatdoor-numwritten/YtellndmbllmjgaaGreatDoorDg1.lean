/- Digits. -/
import Derived.Test.YtellndmbllmjgaaGreatDoorBnB
import Derived.Test.YtellndmbllmjgaaGreatDoorPtA
set_option linter.unusedVariables false
namespace Go.Proofs.YtellndmbllmjgaaGreatDoor
open Go.RowKit Go.Shelf Go.Sort Fs Fl

theorem NatIs.form {w : World} {v : Value} {x : Nat} (h : NatIs w v x) (bx : x < pw 1000) : ∃ sa sl sc, v = .slice sa sl sc ∧ (sl = 0 ↔ x = 0) ∧ sl ≤ 1000 := by
  obtain ⟨l, h1, h2, h3⟩ := h
  obtain ⟨a, c, e⟩ := h1.slice
  refine ⟨a, l.length, c, e, ?_, len_le h2 (by rw [h3]; exact bx)⟩
  constructor
  · intro h0
    rw [← h3, List.eq_nil_of_length_eq_zero h0]
    rfl
  · intro h0
    rcases Nat.eq_zero_or_pos l.length with h4 | h4
    · exact h4
    · have := val_ge l h2 h4
      rw [h3, h0] at this
      have := Nat.pow_pos (n := l.length - 1) (show 0 < 65536 by omega)
      omega
theorem owns_below {w w' : World} {base e s n : Nat} {v : Value} {xs : List Value} (h : w.ownsRow base e s v n xs) (hb : Below w.heap.size w w') : w'.ownsRow base e s v n xs := by
  refine ⟨h.1, ?_⟩
  rcases h.2 with ⟨h1, h2⟩ | ⟨g, cap, cur, h1, h2, hg, h4⟩
  · exact Or.inl ⟨h1, h2⟩
  · exact Or.inr ⟨g, cap, cur, h1, h2, by rw [hb.block g (lt_of_get hg)]; exact hg, h4⟩
theorem owns_pos {W : World} {base : Nat} {e : TypeId} {size : Nat} {v : Value} {k : Nat} {xs : List Value} (hk : 0 < k) (h : W.ownsRow base e size v k xs) : ∃ g cap, v = .slice (some ⟨g, 0, none⟩) k cap := by
  rcases h.2 with ⟨_, h0⟩ | ⟨g, cap, _, rfl, _⟩
  · omega
  · exact ⟨g, cap, rfl⟩
theorem NatIs.keep {w w' : World} {v : Value} {x : Nat} (h : NatIs w v x) (hT : T108 w v) (hk : Kept5 w w') : NatIs w' v x := by
  obtain ⟨l, h1, h2, h3⟩ := h
  obtain ⟨b, k, c, C, fr, rfl, hb⟩ := hT
  refine ⟨l, ?_, h2, h3⟩
  rcases h1 with h1 | ⟨b', off, cap, e, hc, hb', hcell⟩
  · exact Or.inl h1
  · cases e
    have h4 := hk b C 108 fr hb (by decide)
    refine Or.inr ⟨_, _, _, rfl, hc, lt_of_get h4, fun j hj => ?_⟩
    rw [← hcell j hj]
    exact World.cell?_of_block (w := w) (w' := w') (by rw [h4, hb])
def slLen : Value → Nat
  | .slice _ n _ => n
  | _ => 0
theorem owns_len {W : World} {base : Nat} {e : TypeId} {size : Nat} {v : Value} {k : Nat} {xs : List Value} (h : W.ownsRow base e size v k xs) : slLen v = k := by
  rcases h.2 with ⟨rfl, h0⟩ | ⟨g, cap, _, rfl, _⟩
  · rw [h0]; rfl
  · rfl
/-- What holds ahead of each round of Digits. -/
def DgR (w : World) (x : Nat) (va vb : Value) (wr : World) : Prop :=
  ∃ (t : Nat) (bk : List Nat), NatIs wr va (x / 10 ^ t) ∧ wr.ownsRow w.heap.size 5 1 vb t (bk.map bv) ∧ bk.length = t ∧ (∀ i, i < t → bk[i]? = some (48 + x / 10 ^ i % 10)) ∧ t ≤ 25 ∧ (0 < t → 10 ^ (t - 1) ≤ x) ∧ Below w.heap.size w wr
theorem lt_digits : ∀ d, d < 10 ^ Lib.nDigits d := fun d => by
    induction d using Nat.strongRecOn with
    | ind d ih =>
      by_cases h0 : d < 10
      · rw [Lib.nDigits_small h0]; simpa using h0
      · rw [Lib.nDigits_big h0, Nat.pow_add]
        have := ih (d / 10) (by omega)
        simp only [Nat.pow_one]
        omega
theorem len_digits {x t : Nat} (ht : 0 < t) (h1 : 10 ^ (t - 1) ≤ x) (h2 : x / 10 ^ t = 0) : Lib.nDigits x = t := by
  have h3 : x < 10 ^ t := by
    rcases Nat.lt_or_ge x (10 ^ t) with h | h
    · exact h
    · have := Nat.div_pos h (Nat.pow_pos (by omega)); omega
  have h4 := nDigits_le x t h3 ht
  have hx0 : 0 < x := Nat.lt_of_lt_of_le (Nat.pow_pos (by omega)) h1
  rcases Nat.lt_or_ge (Lib.nDigits x) t with h5 | h5
  · exfalso
    have h6 : x < 10 ^ Lib.nDigits x := lt_digits x
    have h7 : 10 ^ Lib.nDigits x ≤ 10 ^ (t - 1) := Nat.pow_le_pow_right (by omega) (by omega)
    omega
  · omega
set_option maxRecDepth 100000 in
set_option maxHeartbeats 1000000 in
theorem digits_pos (u : Value) (x : Nat) (w : World) (hu : NatIs w u x) (hx : 0 < x) (bx : x < pw 5) :
    Calls Tryz.prog 33 #[u, .int .i64 10] w fun e w' => e = .returned (.string (txt (decN x))) ∧ Below w.heap.size w w' := by
  obtain ⟨sa, sl, sc, rfl, hs, hs2⟩ := hu.form (pw_lt bx (by omega))
  have t0 : ((sl : Int) == 0) = false := by rw [beq_eq_false_iff_ne]; omega
  have HX : Hid (x < pw 5) := bx
  clear bx hs
  go_enter Tryz.func33, Tryz.ntmps33
  go_wp2
  go_loopw [0, 5] (fun va vb wr => DgR w x va vb wr) (fun _ vb _ => 30 - slLen vb)
  case atStart => exact ⟨0, [], by simpa using hu, World.ownsRow_nil _ _ _ _, rfl, by intro i hi; omega, by omega, by omega, Below.refl _ _⟩
  case round =>
    obtain ⟨t, bk, ha, hown, hbl, hbd, ht, hlow, hbw⟩ := hrel
    obtain ⟨sa2, sl2, sc2, rfl, hz, hz2⟩ := ha.form (pw_lt (Nat.lt_of_le_of_lt (Nat.div_le_self _ _) HX.out) (by omega))
    rcases Nat.eq_zero_or_pos (x / 10 ^ t) with h0 | h0
    · have hsl : sl2 = 0 := hz.2 h0
      subst hsl
      have ht0 : 0 < t := by
        rcases Nat.eq_zero_or_pos t with h | h
        · rw [h, Nat.pow_zero, Nat.div_one] at h0; omega
        · exact h
      have hnd := len_digits ht0 (hlow ht0) h0
      obtain ⟨g, cap, rfl⟩ := owns_pos ht0 hown
      have hcell : ∀ m, m < t → wr.cell? ⟨g, t - 1 - m, none⟩ = some (.int .u8 (((decN x)[m]?.getD 0 : Nat) : Int)) := by
        intro m hm
        have hc := hown.cells (g := g) rfl
        have h1 := hc (t - 1 - m) (bv (48 + x / 10 ^ (t - 1 - m) % 10)) (by rw [List.getElem?_map, hbd (t - 1 - m) (by omega)]; rfl)
        have e : (⟨g, 0, none⟩ : Addr).add (t - 1 - m) = ⟨g, t - 1 - m, none⟩ := by unfold Addr.add; split <;> simp_all
        rw [e] at h1
        rw [decN_at x m (by omega), hnd]
        exact h1
      have hgw : g < wr.heap.size := by
        rcases hown.2 with ⟨h1, _⟩ | ⟨g', cap', cur, h1, _, hg, _⟩
        · cases h1
        · cases h1; exact lt_of_get hg
      have HC := (show Hid _ from hcell)
      have hlen := decN_length x
      rw [hnd] at hlen
      have HLEN : Hid ((decN x).length = t) := hlen
      clear hcell hown hbl hbd hlow h0 hz ha hlen hnd
      rename World => wB
      go_wp2
      go_loopw [8, 9] (fun vo vi w2 => ∃ m : Nat, m ≤ t ∧ vi = .int .i64 ((t : Int) - m - 1) ∧ w2.ownsRow wB.heap.size 5 1 vo m (((decN x).take m).map bv) ∧ Below wB.heap.size wB w2) (fun _ vi _ => (RowKit.intOf vi + 1).toNat)
      case atStart => exact ⟨0, Nat.zero_le _, by go_num, World.ownsRow_nil _ _ _ _, Below.refl _ _⟩
      case round =>
        obtain ⟨m, hm, rfl, hown2, hbw2⟩ := hrel
        rcases Nat.lt_or_ge m t with hlt | hge
        · obtain ⟨i, hi⟩ : ∃ i : Nat, (t : Int) - m - 1 = (i : Int) := ⟨t - 1 - m, by omega⟩
          have hi2 : i = t - 1 - m := by omega
          have hcl := (hbw2.cell (p := ⟨g, t - 1 - m, none⟩) hgw).trans (HC.out m hlt)
          rw [← hi2] at hcl
          have hk1 : (i : Int) < (t : Int) := by omega
          obtain ⟨z, hz⟩ : ∃ z, z = (decN x)[m]?.getD 0 := ⟨_, rfl⟩
          rw [← hz] at hcl
          have HZ : Hid (z = (decN x)[m]?.getD 0) := hz
          have HI2 : Hid (i = t - 1 - m) := hi2
          rw [hi]
          clear hz hi hi2
          go_wp2_with (first | (at_builtin; refine app1 rfl _ _ rfl wB.heap.size _ _ _ wB _ _ hown2 rfl rfl (by omega) (Nat.le_refl _) hbw2 ?_; intro v' w3 hown' hbw' hkk))
          have hi2 := HI2.out
          refine ⟨⟨m + 1, by omega, by congr 1; omega, ?_, hbw'⟩, ?_⟩
          · have hlm : m < (decN x).length := by rw [HLEN.out]; exact hlt
            rw [List.take_succ_eq_append_getElem hlm, List.map_append]
            have hz := HZ.out
            rw [List.getElem?_eq_getElem hlm] at hz
            simp only [Option.getD_some] at hz
            rw [← hz]
            exact hown'
          · simp only [RowKit.intOf]
            omega
        · have hmt : m = t := by omega
          subst hmt
          have hlen := HLEN.out
          rw [List.take_of_length_le (by omega)] at hown2
          obtain ⟨g2, cap2, rfl⟩ := owns_pos ht0 hown2
          have hcv := conv_row (bs := decN x) (W := wr) (base := wB.heap.size) (g := g2) (cap := cap2) (fun b hb => by have := decN_ge x b hb; omega) (by rw [hlen]; exact hown2)
          rw [hlen] at hcv
          have hk1 : ¬ (0 : Int) ≤ (m : Int) - m - 1 := by omega
          clear hown2
          go_wp2
          go_ret
          exact ⟨rfl, hbw.trans (hbw2.mono hbw.size)⟩
    · have hsl : 0 < sl2 := by rcases Nat.eq_zero_or_pos sl2 with h | h; (· have := hz.1 h; omega); (· exact h)
      have k1 : (0 : Int) < (sl2 : Int) := by omega
      have cs := small_any (.slice sa2 sl2 sc2) (x / 10 ^ t) 10 (by omega) (by omega) wr ha h0 (pw_lt (Nat.lt_of_le_of_lt (Nat.div_le_self _ _) HX.out) (by omega))
      have HB : Hid (bk.length = t ∧ (∀ i, i < t → bk[i]? = some (48 + x / 10 ^ i % 10)) ∧ (0 < t → 10 ^ (t - 1) ≤ x) ∧ 0 < x / 10 ^ t) := ⟨hbl, hbd, hlow, h0⟩
      clear hbl hbd hlow h0 hz ha
      obtain ⟨d, hd⟩ : ∃ d, d = x / 10 ^ t % 10 := ⟨_, rfl⟩
      have hd9 : d < 10 := by omega
      rw [← hd] at cs
      have HD : Hid (d = x / 10 ^ t % 10) := hd
      clear hd
      have cs' : Calls Tryz.prog 85 #[.slice sa2 sl2 sc2, .int .u32 10] wr fun e w' => ∃ v, e = .returned (.tuple #[v, .int .u32 (d : Int)]) ∧ NatIs w' v (x / 10 ^ t / 10) ∧ T108 w' v ∧ Below wr.heap.size wr w' := cs
      clear cs
      go_wp2_with (first | (go_at_call 85; refine cs'.mono ?_; rintro e w1 ⟨x1, rfl, hx1, hT1, hw1⟩; clear cs'; have hown1 := owns_below hown hw1; have hbw1 : Below w.heap.size w w1 := hbw.trans (hw1.mono hbw.size)) | (at_builtin; refine app1 rfl _ _ rfl w.heap.size _ _ _ w _ _ hown1 rfl rfl (by omega) (Nat.le_refl _) hbw1 ?_; intro v' w2 hown' hbw' hkk; have hsz2 := hbw'.size))
      have hown2 : w2.ownsRow w.heap.size 5 1 v' (t + 1) ((bk ++ [48 + d]).map bv) := by
        rw [List.map_append]
        have h10 : d = 0 ∨ d = 1 ∨ d = 2 ∨ d = 3 ∨ d = 4 ∨ d = 5 ∨ d = 6 ∨ d = 7 ∨ d = 8 ∨ d = 9 := by omega
        clear HD hown hown1 hx1
        rcases h10 with rfl | rfl | rfl | rfl | rfl | rfl | rfl | rfl | rfl | rfl <;> exact hown'
      obtain ⟨b1, b2, b3, b4⟩ := HB.out
      have hd := HD.out
      have hle : 10 ^ t ≤ x := by
        rcases Nat.lt_or_ge x (10 ^ t) with h | h
        · rw [Nat.div_eq_of_lt h] at b4; omega
        · exact h
      have ht24 : t < 25 := by
        rcases Nat.lt_or_ge t 25 with h | h
        · exact h
        · exfalso
          have h1 : 10 ^ 25 ≤ 10 ^ t := Nat.pow_le_pow_right (by omega) h
          have h2 : pw 5 < 10 ^ 25 := by decide
          have h3 := HX.out
          omega
      have hl1 := owns_len hown2
      have hl0 := owns_len hown
      refine ⟨⟨t + 1, bk ++ [48 + d], ?_, hown2, by simp [b1], ?_, by omega, fun _ => by rw [Nat.add_sub_cancel]; exact hle, hbw'⟩, by omega⟩
      · rw [Nat.pow_succ, ← Nat.div_div_eq_div_mul]
        exact hx1.keep hT1 hkk
      · intro i hi
        rcases Nat.lt_or_ge i t with h | h
        · rw [List.getElem?_append_left (by omega)]
          exact b2 i h
        · have : i = t := by omega
          subst this
          rw [List.getElem?_append_right (by omega), b1, Nat.sub_self, hd]
          rfl
theorem decN_zero : decN 0 = [48] := by
  apply List.ext_getElem?
  intro i
  have h1 : Lib.nDigits 0 = 1 := Lib.nDigits_small (by omega)
  rcases Nat.eq_zero_or_pos i with h | h
  · subst h
    rw [decN_at 0 0 (by omega), h1]
    rfl
  · rw [List.getElem?_eq_none (by rw [decN_length, h1]; omega), List.getElem?_eq_none (by simp; omega)]
/-- **Digits, to the base ten.** -/
theorem digits_any (u : Value) (x : Nat) (w : World) (hu : NatIs w u x) (bx : x < pw 5) :
    Calls Tryz.prog 33 #[u, .int .i64 10] w fun e w' => e = .returned (.string (txt (decN x))) ∧ Below w.heap.size w w' := by
  rcases Nat.eq_zero_or_pos x with h0 | h0
  · subst h0
    obtain ⟨sa, sl, sc, rfl, hs, hs2⟩ := hu.form (pw_lt bx (by omega))
    have hsl : sl = 0 := hs.2 rfl
    subst hsl
    clear hu bx hs hs2
    go_enter Tryz.func33, Tryz.ntmps33
    go_wp2
    go_ret
    refine ⟨?_, Below.refl _ _⟩
    rw [decN_zero]
    rfl
  · exact digits_pos u x w hu h0 bx
end Go.Proofs.YtellndmbllmjgaaGreatDoor
