/- The walks of shouldRoundUp and RoundedInteger. -/
import Derived.Test.YtellndmbllmjgaaGreatDoorCSo7x
import Derived.Test.YtellndmbllmjgaaGreatDoorCSo2x
import Derived.Scope
import Derived.ScopeJumps
import Derived.WalkMore
import Derived.Test.YtellndmbllmjgaaGreatDoorCSw5x
import Derived.Test.YtellndmbllmjgaaGreatDoorCEx1x
set_option linter.unusedVariables false
namespace Go.Proofs.YtellndmbllmjgaaGreatDoor
open Go.RowKit Go.Shelf Go.Sort Fs

set_option maxRecDepth 100000 in
set_option maxHeartbeats 1000000 in
theorem rup_any (w : World) (b : Nat) (t : TypeId) (g : Nat → Nat) (nd : Nat) (dp x : Int) (tr : Bool) (h : DecW w b t g nd x tr) (hnd : nd ≤ 800) (hg : ∀ i, i < nd → 48 ≤ g i ∧ g i < 58) (hdp : -100000 ≤ dp) (hdp2 : dp ≤ 100000) :
    Calls Tryz.prog 265 #[.pointer (some ⟨b, 0, none⟩), .int .i64 dp] w fun e w' => e = .returned (.bool (rupD g nd dp tr)) ∧ ∃ q, w' = w.drewN q := by
  have HD : Hid (DecW w b t g nd x tr) := h
  have c800 := h.cnd
  obtain ⟨R, hR⟩ : ∃ R, R = rupD g nd dp tr := ⟨_, rfl⟩
  rw [← hR]
  unfold rupD at hR
  have D0 : w = w.drewN 0 := by simp [World.drewN]
  have HD0 : Hid (w = w.drewN 0) := D0
  clear D0
  rcases (by omega : dp < 0 ∨ 0 ≤ dp) with h1 | h1
  · rw [if_pos (Or.inl h1)] at hR
    subst hR
    clear h hg
    go_enter Tryz.func265, Tryz.ntmps265
    go_wp2
    go_ret
    exact ⟨rfl, 0, HD0.out⟩
  · obtain ⟨d, rfl⟩ : ∃ d : Nat, dp = d := ⟨dp.toNat, by omega⟩
    rw [Int.toNat_natCast] at hR
    have n1 : ¬ (d : Int) < 0 := by omega
    rcases Nat.lt_or_ge d nd with h2 | h2
    · rw [if_neg (by omega)] at hR
      have n2 : ¬ (nd : Int) ≤ (d : Int) := by omega
      have cd := h.dig d (by omega)
      have hgd := hg d h2
      obtain ⟨y, hy⟩ : ∃ y, g d = y := ⟨_, rfl⟩
      rw [hy] at cd hR hgd
      have hd8 : (d : Int) < 800 := by omega
      by_cases h5 : y = 53
      · by_cases h6 : d + 1 = nd
        · rw [if_pos ⟨h5, h6⟩] at hR
          subst h5
          have k6 : (d : Int) + 1 = (nd : Int) := by omega
          have ct := h.ctr
          cases tr with
          | true =>
            rw [Bool.true_or] at hR
            subst hR
            clear h hg hy hgd
            go_enter Tryz.func265, Tryz.ntmps265
            go_wp2
            go_ret
            exact ⟨rfl, 0, HD0.out⟩
          | false =>
            rw [Bool.false_or] at hR
            rcases Nat.eq_zero_or_pos d with h7 | h7
            · subst h7
              rw [show decide (0 < 0) = false from rfl, Bool.false_and] at hR
              subst hR
              clear h hg hy hgd
              go_enter Tryz.func265, Tryz.ntmps265
              go_wp2
              go_ret
              exact ⟨rfl, 0, HD0.out⟩
            · have ce := h.dig (d - 1) (by omega)
              have hge := hg (d - 1) (by omega)
              obtain ⟨z, hz⟩ : ∃ z, g (d - 1) = z := ⟨_, rfl⟩
              rw [hz] at ce hge hR
              have n7 : (0 : Int) < (d : Int) := by omega
              have n8 : ((d : Int) - 1).toNat = d - 1 := by omega
              obtain ⟨v, hv⟩ : ∃ v, v = (z - 48) % 2 := ⟨_, rfl⟩
              have e5 : ((z : Int) - 48) % 2 = (v : Int) := by omega
              have HR : Hid (R = ((v : Int) != 0)) := by
                show R = _
                rw [hR, decide_eq_true h7, Bool.true_and, ← hv]
                by_cases h8 : v = 0
                · subst h8; rfl
                · rw [decide_eq_true h8]
                  symm
                  rw [bne_iff_ne]
                  omega
              have hz0 : 48 ≤ z := hge.1
              have hz1 : z < 58 := hge.2
              clear h hg hy hgd hR hz hv hge
              go_enter Tryz.func265, Tryz.ntmps265
              go_wp2
              go_ret
              exact ⟨by rw [HR.out]; rfl, 0, HD0.out⟩
        · rw [if_neg (by omega)] at hR
          subst h5
          have k6 : ((d : Int) + 1 == (nd : Int)) = false := by rw [beq_eq_false_iff_ne]; omega
          have HR : Hid (R = true) := hR
          clear h hg hy hR h6
          go_enter Tryz.func265, Tryz.ntmps265
          go_wp2
          go_ret
          exact ⟨by rw [HR.out]; rfl, 0, HD0.out⟩
      · rw [if_neg (by omega)] at hR
        have k1 : ((y : Int) == 53) = false := by rw [beq_eq_false_iff_ne]; omega
        have HR : Hid (R = decide ((53 : Int) ≤ (y : Int))) := by
          show R = _
          rw [hR, decide_eq_decide]
          omega
        clear h hg hy hR h5
        go_enter Tryz.func265, Tryz.ntmps265
        go_wp2
        go_ret
        exact ⟨by rw [HR.out]; rfl, 0, HD0.out⟩
    · rw [if_pos (by omega)] at hR
      have n2 : (nd : Int) ≤ (d : Int) := by omega
      subst hR
      clear h hg
      go_enter Tryz.func265, Tryz.ntmps265
      go_wp2
      go_ret
      exact ⟨rfl, 0, HD0.out⟩
/-- i digits taken. -/
inductive RiI (nd N : Nat) (dp : Int) (w : World) : Value → Value → World → Prop
  | mk (i n q : Nat) (W : World) (hn : n = hvP N nd i) (hi : i ≤ 20) (hb : n < 9007199254740992) (hm : i ≤ dp.toNat) (hW : W = w.drewN q) : RiI nd N dp w (.int .i64 (i : Int)) (.int .u64 (n : Int)) W
theorem hvP_le {N nd i j : Nat} (h : i ≤ j) : hvP N nd i ≤ hvP N nd j := by
  induction h with
  | refl => exact Nat.le_refl _
  | step _ ih => exact Nat.le_trans ih (hvP_mono _ _ _)
set_option maxRecDepth 100000 in
set_option maxHeartbeats 1000000 in
theorem rounded_int (w : World) (b : Nat) (t : TypeId) (g : Nat → Nat) (nd N : Nat) (dp : Int) (tr : Bool) (h : DecW w b t g nd dp tr) (hnd : nd ≤ 800) (hR : Row g nd N) (hdp : -100000 ≤ dp) (hdp2 : dp ≤ 16) (hb : hvP N nd dp.toNat < 2 ^ 53) :
    Calls Tryz.prog 302 #[.pointer (some ⟨b, 0, none⟩)] w fun e w' => e = .returned (.int .u64 ((hvP N nd dp.toNat + (if rupD g nd dp tr = true then 1 else 0) : Nat) : Int)) ∧ ∃ q, w' = w.drewN q := by
  have HD : Hid (DecW w b t g nd dp tr) := h
  have HR : Hid (Row g nd N) := hR
  have c801 := h.cdp
  have k20 : ¬ (20 : Int) < dp := by omega
  obtain ⟨X, hX⟩ : ∃ X, X = hvP N nd dp.toNat := ⟨_, rfl⟩
  have HX : Hid (X = hvP N nd dp.toNat) := hX
  rw [← hX] at hb ⊢
  have hXb : X < 9007199254740992 := hb
  have CU : Hid (∀ W, DecW W b t g nd dp tr → Calls Tryz.prog 265 #[.pointer (some ⟨b, 0, none⟩), .int .i64 dp] W fun e w' => e = .returned (.bool (rupD g nd dp tr)) ∧ ∃ q, w' = W.drewN q) := fun W hW => rup_any W b t g nd dp dp tr hW hnd (fun i hi => hR.dig hi) hdp (by omega)
  obtain ⟨U, hU⟩ : ∃ U, U = rupD g nd dp tr := ⟨_, rfl⟩
  rw [← hU] at CU ⊢
  clear h hR hb hX hU
  go_enter Tryz.func302, Tryz.ntmps302
  go_wp2
  clear c801
  go_loopw [3, 4] (fun vi vn wr => RiI nd N dp w vi vn wr) (fun vi _ _ => nd - (intOf vi).toNat)
  case atStart => exact .mk 0 0 0 w (hvP_zero HR.out.up).symm (by decide) (by decide) (Nat.zero_le _) (by simp [World.drewN])
  case round =>
    obtain ⟨i, n, q, _, hn, hi, hnb, hm, hW⟩ := hrel
    have HN : Hid (n = hvP N nd i ∧ wr = w.drewN q) := ⟨hn, hW⟩
    have HD2 : Hid (DecW wr b t g nd dp tr) := by rw [hW]; exact HD.out.drewN q
    have c801 := HD2.out.cdp
    have c800 := HD2.out.cnd
    by_cases hc : (i : Int) < dp ∧ i < nd
    · obtain ⟨h1, h2⟩ := hc
      have cd := HD2.out.dig i (by omega)
      have hget := HR.out.get i h2
      obtain ⟨x, hx⟩ : ∃ x, g i = x := ⟨_, rfl⟩
      rw [hx] at cd hget
      have hx0 : 48 ≤ x := by omega
      have hx1 : x < 58 := by have := Nat.mod_lt (N / 10 ^ (nd - 1 - i)) (show 0 < 10 by decide); omega
      have HXx : Hid (x = 48 + N / 10 ^ (nd - 1 - i) % 10 ∧ (i : Int) < dp ∧ i < nd) := ⟨hget, h1, h2⟩
      have h2' : (i : Int) < (nd : Int) := by omega
      have hi8 : (i : Int) < 800 := by omega
      clear hn hW hx hget
      go_wp2
      obtain ⟨a1, a2⟩ := HN.out
      obtain ⟨a3, a4, a5⟩ := HXx.out
      refine ⟨?_, by simp [intOf]; omega⟩
      have e1 : (n : Int) * 10 + ((x : Int) - 48) = ((n * 10 + (x - 48) : Nat) : Int) := by omega
      rw [e1]
      have e2 : n * 10 + (x - 48) = hvP N nd (i + 1) := by rw [hvP_next a5, ← a1]; omega
      refine .mk (i + 1) _ q _ e2 (by omega) ?_ (by omega) a2
      rw [e2]
      have h7 := hvP_le (N := N) (nd := nd) (show i + 1 ≤ dp.toNat by omega)
      rw [← HX.out] at h7
      omega
    · have HC : Hid (¬ ((i : Int) < dp ∧ i < nd)) := hc
      have R0 : Hid (RiI nd N dp w (.int .i64 (i : Int)) (.int .u64 (n : Int)) wr) := .mk i n q _ hn hi hnb hm hW
      by_cases h1 : (i : Int) < dp
      · have h2' : ¬ (i : Int) < (nd : Int) := by omega
        clear hn hW hc
        go_wp2
        clear c801 c800 hi hnb hm HN HD2
        generalize decide ((i : Int) < dp) = v1
        try generalize decide ((i : Int) < (nd : Int)) = v2
        go_loopw [3, 4] (fun vi vn wr => RiI nd N dp w vi vn wr ∧ Hid (intOf vi < dp → (nd : Int) ≤ intOf vi)) (fun vi _ _ => (dp - intOf vi).toNat)
        case atStart => exact ⟨R0.out, fun h => by have := HC.out; simp only [intOf] at h ⊢; omega⟩
        case round =>
          obtain ⟨hrel, HG⟩ := hrel
          obtain ⟨i, n, q, _, hn, hi, hnb, hm, hW⟩ := hrel
          have HN : Hid (n = hvP N nd i ∧ wr = w.drewN q ∧ i ≤ dp.toNat) := ⟨hn, hW, hm⟩
          have HD2 : Hid (DecW wr b t g nd dp tr) := by rw [hW]; exact HD.out.drewN q
          have c801 := HD2.out.cdp
          by_cases h1 : (i : Int) < dp
          · have HI : Hid ((i : Int) < dp) := h1
            clear hn hW hm
            go_wp2
            obtain ⟨a1, a2, a3⟩ := HN.out
            have h2 := HI.out
            have h3 := HG.out h2
            simp only [intOf] at h3
            have e1 : (n : Int) * 10 = ((n * 10 : Nat) : Int) := by omega
            have e2 : n * 10 = hvP N nd (i + 1) := by rw [hvP_over (by omega), ← a1]
            refine ⟨⟨?_, fun h => by simp only [intOf] at h ⊢; omega⟩, by simp [intOf]; omega⟩
            rw [e1]
            refine .mk (i + 1) _ q _ e2 (by omega) ?_ (by omega) a2
            rw [e2]
            have h7 := hvP_le (N := N) (nd := nd) (show i + 1 ≤ dp.toNat by omega)
            rw [← HX.out] at h7
            omega
          · have hnX : Hid (n = X) := by show n = X; rw [HX.out, hn, show i = dp.toNat by omega]
            have cu := CU.out wr HD2.out
            clear hn hW hm
            go_wp2_with (first | (go_at_call 265; fail))
            refine cu.mono ?_
            rintro e w5 ⟨rfl, q5, hw5⟩
            have HW5 : Hid (∃ q, w5 = w.drewN q) := ⟨q + q5, by rw [hw5, HN.out.2.1]; simp⟩
            clear hw5 cu
            cases U with
            | true =>
              go_wp2
              go_ret
              exact ⟨by rw [← hnX.out]; rfl, HW5.out⟩
            | false =>
              go_wp2
              go_ret
              exact ⟨by rw [← hnX.out]; rfl, HW5.out⟩
      · skip
        clear hn hW hc
        go_wp2
        clear c801 c800 hi hnb hm HN HD2
        try generalize decide ((i : Int) < dp) = v1
        go_loopw [3, 4] (fun vi vn wr => RiI nd N dp w vi vn wr ∧ Hid (intOf vi < dp → (nd : Int) ≤ intOf vi)) (fun vi _ _ => (dp - intOf vi).toNat)
        case atStart => exact ⟨R0.out, fun h => by have := HC.out; simp only [intOf] at h ⊢; omega⟩
        case round =>
          obtain ⟨hrel, HG⟩ := hrel
          obtain ⟨i, n, q, _, hn, hi, hnb, hm, hW⟩ := hrel
          have HN : Hid (n = hvP N nd i ∧ wr = w.drewN q ∧ i ≤ dp.toNat) := ⟨hn, hW, hm⟩
          have HD2 : Hid (DecW wr b t g nd dp tr) := by rw [hW]; exact HD.out.drewN q
          have c801 := HD2.out.cdp
          by_cases h1 : (i : Int) < dp
          · have HI : Hid ((i : Int) < dp) := h1
            clear hn hW hm
            go_wp2
            obtain ⟨a1, a2, a3⟩ := HN.out
            have h2 := HI.out
            have h3 := HG.out h2
            simp only [intOf] at h3
            have e1 : (n : Int) * 10 = ((n * 10 : Nat) : Int) := by omega
            have e2 : n * 10 = hvP N nd (i + 1) := by rw [hvP_over (by omega), ← a1]
            refine ⟨⟨?_, fun h => by simp only [intOf] at h ⊢; omega⟩, by simp [intOf]; omega⟩
            rw [e1]
            refine .mk (i + 1) _ q _ e2 (by omega) ?_ (by omega) a2
            rw [e2]
            have h7 := hvP_le (N := N) (nd := nd) (show i + 1 ≤ dp.toNat by omega)
            rw [← HX.out] at h7
            omega
          · have hnX : Hid (n = X) := by show n = X; rw [HX.out, hn, show i = dp.toNat by omega]
            have cu := CU.out wr HD2.out
            clear hn hW hm
            go_wp2_with (first | (go_at_call 265; fail))
            refine cu.mono ?_
            rintro e w5 ⟨rfl, q5, hw5⟩
            have HW5 : Hid (∃ q, w5 = w.drewN q) := ⟨q + q5, by rw [hw5, HN.out.2.1]; simp⟩
            clear hw5 cu
            cases U with
            | true =>
              go_wp2
              go_ret
              exact ⟨by rw [← hnX.out]; rfl, HW5.out⟩
            | false =>
              go_wp2
              go_ret
              exact ⟨by rw [← hnX.out]; rfl, HW5.out⟩
end Go.Proofs.YtellndmbllmjgaaGreatDoor
/- A scope with two labels, jumped to from ahead alone. -/
set_option linter.unusedVariables false
namespace Go.Proofs.YtellndmbllmjgaaGreatDoor

/-- As Q; by a goto to one of two labels: what stands there. -/
def go2 (P : Program) (l0 l1 : Nat) (r0 r1 : Code) (Q : Exit → Act → World → Prop) : Exit → Act → World → Prop
  | .goto l, a, w => (l = l0 ∧ r0.wp P (Exit.noGoto Q) a w) ∨ (l = l1 ∧ r1.wp P (Exit.noGoto Q) a w)
  | e, a, w => Q e a w
section
variable {P : Program} {l0 l1 : Nat} {r0 r1 : Code} {Q : Exit → Act → World → Prop} {a : Act} {w : World}
theorem go2_normal : go2 P l0 l1 r0 r1 Q .normal a w = Q .normal a w := rfl
theorem go2_exit (id : Nat) : go2 P l0 l1 r0 r1 Q (.exit id) a w = Q (.exit id) a w := rfl
theorem go2_ret : go2 P l0 l1 r0 r1 Q .ret a w = Q .ret a w := rfl
theorem go2_panic (ch : List PanicEntry) : go2 P l0 l1 r0 r1 Q (.panic ch) a w = Q (.panic ch) a w := rfl
theorem go2_first (h : r0.wp P (Exit.noGoto Q) a w) : go2 P l0 l1 r0 r1 Q (.goto l0) a w := Or.inl ⟨rfl, h⟩
theorem go2_second (h : r1.wp P (Exit.noGoto Q) a w) : go2 P l0 l1 r0 r1 Q (.goto l1) a w := Or.inr ⟨rfl, h⟩
theorem wp_scope_two {c : Code} (l0 l1 : Nat) (h0 : findLabel c l0 = some r0) (h1 : findLabel c l1 = some r1) (first : c.wp P (go2 P l0 l1 r0 r1 Q) a w) : (Code.scope c).wp P Q a w := by
  intro b k cs
  have key : ∀ (l : Nat) (r : Code), findLabel c l = some r → ∀ a w, r.wp P (Exit.noGoto Q) a w → ∃ e a' w', Q e a' w' ∧ Arrives P (lone (b.at a (.code r :: .inScope c :: k)) cs w) b k cs e a' w' := by
    intro l r hf a w hw
    obtain ⟨e, a₁, w₁, hq, harr⟩ := hw b (.inScope c :: k) cs
    cases e with
    | normal => exact ⟨.normal, a₁, w₁, hq, Steps.trans harr (.one step_inScope)⟩
    | exit id => exact ⟨.exit id, a₁, w₁, hq, fun k' hk => harr k' (by simp [exitTo, hk])⟩
    | goto l' => exact hq.elim
    | ret => exact ⟨_, a₁, w₁, hq, harr⟩
    | panic ch => exact ⟨_, a₁, w₁, hq, harr⟩
    | outgrown => exact ⟨_, a₁, w₁, hq, harr⟩
  obtain ⟨e, a₁, w₁, hq, harr⟩ := first b (.inScope c :: k) cs
  cases e with
  | normal => exact ⟨.normal, a₁, w₁, hq, .head step_scope (Steps.trans harr (.one step_inScope))⟩
  | exit id => exact ⟨.exit id, a₁, w₁, hq, fun k' hk => .head step_scope (harr k' (by simp [exitTo, hk]))⟩
  | goto l' =>
    rcases hq with ⟨rfl, hw⟩ | ⟨rfl, hw⟩
    · have hg : gotoIn l' (.inScope c :: k) = some (.code r0 :: .inScope c :: k) := by simp [gotoIn, h0]
      obtain ⟨e₂, a₂, w₂, hq₂, harr₂⟩ := key _ _ h0 a₁ w₁ hw
      exact ⟨e₂, a₂, w₂, hq₂, .of_steps (.head step_scope (harr _ hg)) harr₂⟩
    · have hg : gotoIn l' (.inScope c :: k) = some (.code r1 :: .inScope c :: k) := by simp [gotoIn, h1]
      obtain ⟨e₂, a₂, w₂, hq₂, harr₂⟩ := key _ _ h1 a₁ w₁ hw
      exact ⟨e₂, a₂, w₂, hq₂, .of_steps (.head step_scope (harr _ hg)) harr₂⟩
  | ret => exact ⟨_, a₁, w₁, hq, .of_steps (.one step_scope) harr⟩
  | panic ch => exact ⟨_, a₁, w₁, hq, .of_steps (.one step_scope) harr⟩
  | outgrown => exact ⟨_, a₁, w₁, hq, .of_steps (.one step_scope) harr⟩
end
end Go.Proofs.YtellndmbllmjgaaGreatDoor
/- The walk of floatBits: where the point lies far off. -/
set_option linter.unusedVariables false
namespace Go.Proofs.YtellndmbllmjgaaGreatDoor
open Go.RowKit Go.Shelf Go.Sort Fs

attribute [local go_sem] go2_normal go2_exit go2_ret go2_panic
theorem cell_kx {b : Nat} {w w' : World} (h : Kx [b] w w') {k j : Nat} {v : Value} (hk : k ≠ b) (hc : w.cell? ⟨k, j, none⟩ = some v) : w'.cell? ⟨k, j, none⟩ = some v := by
  have hb := World.block_lt_of_cell? w _ hc
  have := h.block k hb (by simpa using hk)
  have e : w'.cell? ⟨k, j, none⟩ = w.cell? ⟨k, j, none⟩ := by simp only [World.cell?]; rw [this]
  rw [e]; exact hc
/-- What floatBits needs beside its decimal: the cutoffs, the shifts, the form of its numbers. -/
structure Tabs (b G : Nat) (w : World) : Prop where
  ch : ∃ B off cap, B ≠ b ∧ w.cell? ⟨12, 0, none⟩ = some (.slice (some ⟨B, off, none⟩) 61 cap) ∧ 61 ≤ cap ∧
    ∀ k, k < 61 → w.cell? ⟨B, off + k * 2, none⟩ = some (.int .i64 (chW k : Int)) ∧ w.cell? ⟨B, off + k * 2 + 1, none⟩ = some (.string ⟨((Go.Pinned.cheatRows.getD k (0, [])).2).toArray⟩)
  pw : ∃ B off cap, B ≠ b ∧ w.cell? ⟨17, 0, none⟩ = some (.slice (some ⟨B, off, none⟩) 9 cap) ∧ 9 ≤ cap ∧ ∀ j, j < 9 → w.cell? ⟨B, off + j, none⟩ = some (.int .i64 (pwt j : Int))
  n12 : 12 ≠ b
  n17 : 17 ≠ b
  nG : G ≠ b
  f0 : w.cell? ⟨G, 0, none⟩ = some (.int .u64 52)
  f1 : w.cell? ⟨G, 1, none⟩ = some (.int .u64 11)
  f2 : w.cell? ⟨G, 2, none⟩ = some (.int .i64 (-1023))
theorem Tabs.cheats {b G : Nat} {w : World} (h : Tabs b G w) : Cheats w := by
  obtain ⟨B, off, cap, _, h1, h2, h3⟩ := h.ch
  exact ⟨B, off, cap, h1, h2, h3⟩
theorem Tabs.kx {b G : Nat} {w w' : World} (h : Tabs b G w) (k : Kx [b] w w') : Tabs b G w' := by
  obtain ⟨B, off, cap, h0, h1, h2, h3⟩ := h.ch
  obtain ⟨B', off', cap', g0, g1, g2, g3⟩ := h.pw
  exact ⟨⟨B, off, cap, h0, cell_kx k h.n12 h1, h2, fun j hj => ⟨cell_kx k h0 (h3 j hj).1, cell_kx k h0 (h3 j hj).2⟩⟩, ⟨B', off', cap', g0, cell_kx k h.n17 g1, g2, fun j hj => cell_kx k g0 (g3 j hj)⟩, h.n12, h.n17, h.nG, cell_kx k h.nG h.f0, cell_kx k h.nG h.f1, cell_kx k h.nG h.f2⟩
set_option maxRecDepth 100000 in
set_option maxHeartbeats 1000000 in
theorem floatBits_over (w : World) (b G : Nat) (t : TypeId) (f : Nat → Nat) (nd : Nat) (dp : Int) (tr : Bool) (h : DecW w b t f nd dp tr) (hT : Tabs b G w) (hnd : 0 < nd) (hdp : 310 < dp) :
    Calls Tryz.prog 294 #[.pointer (some ⟨b, 0, none⟩), .pointer (some ⟨G, 0, none⟩)] w fun e w' => e = .returned (.tuple #[.int .u64 9218868437227405312, .bool true]) ∧ Kx [b] w w' := by
  have c800 := h.cnd
  have c801 := h.cdp
  have c802 := h.cneg
  have f0 := hT.f0
  have f1 := hT.f1
  have f2 := hT.f2
  have k1 : ((nd : Int) == 0) = false := by rw [beq_eq_false_iff_ne]; omega
  clear h hT
  go_enter Tryz.func294, Tryz.ntmps294
  go_wp2
  refine wp_scope_two 0 1 rfl rfl ?_
  go_wp2
  go_step3
  refine go2_second ?_
  go_wp2
  go_quiet (fail)
  obtain ⟨W, hW⟩ : ∃ W, W = w.drewN nq := ⟨_, rfl⟩
  rw [← hW]
  have HW : Hid (Kx [b] w W) := by rw [hW]; exact Kx.drewN _ _ _
  have g0 : W.cell? ⟨G, 0, none⟩ = some (.int .u64 52) := by rw [hW]; exact f0
  have g1 : W.cell? ⟨G, 1, none⟩ = some (.int .u64 11) := by rw [hW]; exact f1
  have g2 : W.cell? ⟨G, 2, none⟩ = some (.int .i64 (-1023)) := by rw [hW]; exact f2
  have g3 : W.cell? ⟨b, 802, none⟩ = some (.bool false) := by rw [hW]; exact c802
  clear hW f0 f1 f2 c802
  have o1 : bits .and .u64 0 4503599627370495 = 0 := by decide
  have o2 : bits .and .i64 2047 2047 = 2047 := by decide
  have o3 : bits .or .u64 0 9218868437227405312 = 9218868437227405312 := or_none 9218868437227405312 (by omega)
  go_wp2
  go_step3
  go_wp2
  go_quiet (fail)
  obtain ⟨W2, hW2⟩ : ∃ W2, W2 = W.drewN nq := ⟨_, rfl⟩
  rw [← hW2]
  have HW2 : Hid (Kx [b] w W2) := by rw [hW2]; exact HW.out.drw nq
  have g4 : W2.cell? ⟨b, 802, none⟩ = some (.bool false) := by rw [hW2]; exact g3
  clear hW2 g0 g1 g2 g3
  go_wp2
  simp only [Exit.noGoto]
  subst_vars
  go_ret2
  exact ⟨rfl, HW2.out⟩
set_option maxRecDepth 100000 in
set_option maxHeartbeats 1000000 in
theorem floatBits_under (w : World) (b G : Nat) (t : TypeId) (f : Nat → Nat) (nd : Nat) (dp : Int) (tr : Bool) (h : DecW w b t f nd dp tr) (hT : Tabs b G w) (hnd : 0 < nd) (hdp : dp < -330) :
    Calls Tryz.prog 294 #[.pointer (some ⟨b, 0, none⟩), .pointer (some ⟨G, 0, none⟩)] w fun e w' => e = .returned (.tuple #[.int .u64 0, .bool false]) ∧ Kx [b] w w' := by
  have c800 := h.cnd
  have c801 := h.cdp
  have c802 := h.cneg
  have f0 := hT.f0
  have f1 := hT.f1
  have f2 := hT.f2
  have k1 : ((nd : Int) == 0) = false := by rw [beq_eq_false_iff_ne]; omega
  have k2 : ¬ (310 : Int) < dp := by omega
  have o1 : bits .and .u64 0 4503599627370495 = 0 := by decide
  have o2 : bits .and .i64 0 2047 = 0 := by decide
  have o3 : bits .or .u64 0 0 = 0 := by decide
  clear h hT
  go_enter Tryz.func294, Tryz.ntmps294
  go_wp2
  refine wp_scope_two 0 1 rfl rfl ?_
  go_wp2
  go_step3
  refine go2_first ?_
  go_wp2
  go_quiet (fail)
  obtain ⟨W2, hW2⟩ : ∃ W2, W2 = w.drewN nq := ⟨_, rfl⟩
  rw [← hW2]
  have HW2 : Hid (Kx [b] w W2) := by rw [hW2]; exact Kx.drewN _ _ _
  have g4 : W2.cell? ⟨b, 802, none⟩ = some (.bool false) := by rw [hW2]; exact c802
  clear hW2 f0 f1 f2 c802
  go_wp2
  simp only [Exit.noGoto]
  subst_vars
  go_ret2
  exact ⟨rfl, HW2.out⟩
end Go.Proofs.YtellndmbllmjgaaGreatDoor
/- Of two numbers the greater has no lesser nearest word: so a number between two that share their word has it too. What floatBits packs. Whole numbers alone. -/
set_option linter.unusedVariables false
namespace Go.Proofs.YtellndmbllmjgaaGreatDoor
namespace Fs

theorem near_top {p q r : Nat} (h : Near p q r) : p * Z76 ≤ upR r * q := by
  unfold Near Inn at h
  split at h
  · exact h.2
  · exact Nat.le_of_lt h.2
theorem near_bot {p q r : Nat} (h : Near p q r) : loR r * q ≤ p * Z76 := by
  unfold Near Inn at h
  split at h
  · exact h.1
  · exact Nat.le_of_lt h.1
theorem near_scale {p q c R : Nat} (hc : 0 < c) (h : Near p q R) : Near (p * c) (q * c) R := by
  unfold Near at h ⊢
  generalize Z76 = z at *
  have := (Inn.scale (o := R % 2) hc).2 h
  rw [← Nat.mul_assoc, ← Nat.mul_assoc, show p * c * z = p * z * c by ac_rfl]
  exact this
/-- The nearest word grows with the number. -/
theorem near_le {p q p' q' R R' : Nat} (hq : 0 < q) (hq' : 0 < q') (h : p * q' ≤ p' * q) (h1 : Near p q R) (h2 : Near p' q' R') : R ≤ R' := by
  rcases Nat.lt_or_ge R' R with h3 | h3
  · exfalso
    rcases Nat.eq_or_lt_of_le h with e | e
    · have a1 := near_scale hq' h1
      have a2 := near_scale hq h2
      rw [← e, Nat.mul_comm q' q] at a2
      have := near_one (Nat.mul_pos hq hq') a1 a2
      omega
    · have b1 := near_bot h1
      have b2 := near_top h2
      rw [up_succ] at b2
      have b3 := lo_mono (show R' + 1 ≤ R from h3)
      have c1 := Nat.mul_le_mul_right q' b1
      have c2 := Nat.mul_le_mul_right q b2
      have c3 : loR (R' + 1) * q' * q ≤ loR R * q' * q := Nat.mul_le_mul_right _ (Nat.mul_le_mul_right _ b3)
      have c4 := Nat.mul_lt_mul_of_pos_right e Z76_pos
      generalize loR (R' + 1) = x at *
      generalize loR R = y at *
      generalize Z76 = z at *
      have d1 : y * q' * q = y * q * q' := by ac_rfl
      have d2 : p * z * q' = p * q' * z := by ac_rfl
      have d3 : p' * z * q = p' * q * z := by ac_rfl
      omega
  · exact h3
theorem near_between {p q p1 q1 p2 q2 R R1 R2 inf : Nat} (hq : 0 < q) (hq1 : 0 < q1) (hq2 : 0 < q2) (ha : p1 * q ≤ p * q1) (hb : p * q2 ≤ p2 * q)
    (h : Near p q R) (h1 : Near p1 q1 R1) (h2 : Near p2 q2 R2) (he : min R1 inf = min R2 inf) : min R inf = min R1 inf := by
  have a := near_le hq1 hq ha h1 h
  have b := near_le hq hq2 hb h h2
  omega

/-- Above all words. -/
theorem near_over {p q R d : Nat} (hq : 0 < q) (hd : 309 ≤ d) (h : 10 ^ d * q ≤ p) (hN : Near p q R) : 9218868437227405312 ≤ R := by
  rcases Nat.lt_or_ge R 9218868437227405312 with h1 | h1
  · exfalso
    have a1 := near_top hN
    rw [up_succ] at a1
    have a2 := lo_mono (show R + 1 ≤ 9218868437227405311 + 1 by omega)
    rw [← up_succ 9218868437227405311] at a2
    obtain ⟨K, hK, a3⟩ : ∃ K, K = 309 ∧ upR 9218868437227405311 < 10 ^ K * Z76 := ⟨309, rfl, by decide +kernel⟩
    have a4 : 10 ^ K * q ≤ p := Nat.le_trans (Nat.mul_le_mul_right _ (ten_mono (by omega))) h
    have a5 := Nat.mul_le_mul_right Z76 a4
    have a6 : loR (R + 1) * q ≤ upR 9218868437227405311 * q := Nat.mul_le_mul_right _ a2
    have a7 := Nat.mul_lt_mul_of_pos_right a3 hq
    generalize upR 9218868437227405311 = x at *
    generalize loR (R + 1) = y at *
    generalize Z76 = z at *
    have e1 : 10 ^ K * q * z = 10 ^ K * z * q := by ac_rfl
    omega
  · exact h1

end Fs
end Go.Proofs.YtellndmbllmjgaaGreatDoor
/- What floatBits comes to: no walk. -/
set_option linter.unusedVariables false
namespace Go.Proofs.YtellndmbllmjgaaGreatDoor
open Go.RowKit Go.Shelf Go.Sort Fs

theorem halved_le {k nd nd' N : Nat} {f f' : Nat → Nat} {dp dp' : Int} {tr tr' : Bool} (h : Halved k f nd dp tr f' nd' dp' tr') (hR : Row f nd N) : dp' ≤ dp := by
  obtain ⟨m, N', z, m1, m2, _, e, _⟩ := h N hR
  have h1 : N * 5 ^ k < 10 ^ (nd + k) := by
    rw [Nat.pow_add]
    have h2 : 5 ^ k ≤ 10 ^ k := Nat.pow_le_pow_left (by decide) k
    calc _ < 10 ^ nd * 5 ^ k := Nat.mul_lt_mul_of_pos_right hR.up (Nat.pow_pos (by decide))
      _ ≤ _ := Nat.mul_le_mul_left _ h2
  have h3 : m ≤ nd + k := by
    rcases Nat.lt_or_ge (nd + k) m with h4 | h4
    · have := ten_mono (show nd + k ≤ m - 1 by omega)
      omega
    · exact h4
  omega
theorem doubled_ge {k nd nd' N : Nat} {f f' : Nat → Nat} {dp dp' : Int} {tr tr' : Bool} (h : Doubled k f nd dp tr f' nd' dp' tr') (hR : Row f nd N) : dp ≤ dp' := by
  obtain ⟨m, N', z, m1, m2, _, e, _⟩ := h N hR
  have := more_digits hR.pos hR.lo (le_mul_pow N 2 k (by decide)) m2
  omega
theorem pwt_big {d : Nat} (h : 9 ≤ d) : pwt d = 27 := by unfold pwt; rw [if_pos h]
/-- At the end of the road: doubled 53 times and rounded it is the nearest word. -/
structure FbE (p q e : Nat) (g : Nat → Nat) (nd : Nat) (dp : Int) (tr : Bool) : Prop where
  le : nd ≤ 800
  row : ∃ N, Row g nd N
  lo : -2000 ≤ dp
  hi : dp ≤ 0
  fin : ∀ g' nd' dp' tr', Doubled 53 g nd dp tr g' nd' dp' tr' → ∃ N', Row g' nd' N' ∧ -2000 ≤ dp' ∧ dp' ≤ 16 ∧ hvP N' nd' dp'.toNat < 2 ^ 53 ∧
    (2 ^ 52 ≤ hvP N' nd' dp'.toNat ∨ e = 0) ∧ Near p q (e * 4503599627370496 + (hvP N' nd' dp'.toNat + (rupD g' nd' dp' tr').toNat))
theorem fbE_way {B p q L R nd N E e : Nat} {g : Nat → Nat} {tr : Bool} (hq : 0 < q) (hB : 5000 ≤ B) (w : Fs.Way B p q L R g nd 0 tr N E) (h5 : 53 ≤ g 0) (he : e + L = 1021 + R) : FbE p q e g nd 0 tr := by
  have h := w.dst
  have b := w.both
  have few := w.few
  have low := w.low
  have one := (h.place (D := B) (by omega)).2
  refine ⟨h.le, ⟨N, h.row⟩, by omega, by omega, fun g' nd' dp' tr' S => ?_⟩
  have hLR : L ≤ R + 1021 := by omega
  have hL2 : L ≤ 1056 := by
    rcases Nat.eq_zero_or_pos R with h0 | h0
    · omega
    · have := b h0; omega
  obtain ⟨N', r1, r2, r3, r4, left, r5, r6, r7⟩ := last_step h hq hB one (by omega) (by omega) (by omega) (by omega) S
  have hge := doubled_ge S h.row
  refine ⟨N', r1, by omega, r2, r3, Or.inl (r4 (h.first.2 h5)), ?_⟩
  exact near_fin hq r5 r6 r3 (Or.inl (r4 (h.first.2 h5))) (by omega) r7
theorem fbE_sub {B p q L r nd N E : Nat} {g : Nat → Nat} {dp : Int} {tr : Bool} (hq : 0 < q) (hB : 5000 ≤ B) (w : Sub B p q L r g nd dp tr N E) (hL : L < 1100) (hr : r + 1021 = L) (hdp : dp ≤ 0) : FbE p q 0 g nd dp tr := by
  have h := w.dst
  have far := w.far
  refine ⟨h.le, ⟨N, h.row⟩, by omega, hdp, fun g' nd' dp' tr' S => ?_⟩
  obtain ⟨N', r1, r2, r3, r4, left, r5, r6, r7⟩ := last_step h hq hB w.one (by omega) (by omega) (by omega) (by omega) S
  have hge := doubled_ge S h.row
  refine ⟨N', r1, by omega, r2, r3, Or.inr rfl, ?_⟩
  exact near_fin hq r5 r6 r3 (Or.inr rfl) (by omega) r7
/-- Above all words. -/
theorem near_big {p q R : Nat} (hq : 0 < q) (h : 2 ^ 1024 * q ≤ p) (hN : Near p q R) : 9218868437227405312 ≤ R := by
  rcases Nat.lt_or_ge R 9218868437227405312 with h1 | h1
  · exfalso
    have a1 := near_top hN
    rw [up_succ] at a1
    have a2 := lo_mono (show R + 1 ≤ 9218868437227405311 + 1 by omega)
    rw [← up_succ 9218868437227405311] at a2
    obtain ⟨K, hK, a3⟩ : ∃ K, K = 1024 ∧ upR 9218868437227405311 < 2 ^ K * Z76 := ⟨1024, rfl, by decide +kernel⟩
    rw [← hK] at h
    have a5 := Nat.mul_le_mul_right Z76 h
    have a6 : loR (R + 1) * q ≤ upR 9218868437227405311 * q := Nat.mul_le_mul_right _ a2
    have a7 := Nat.mul_lt_mul_of_pos_right a3 hq
    generalize upR 9218868437227405311 = x at *
    generalize loR (R + 1) = y at *
    generalize Z76 = z at *
    have e1 : 2 ^ K * q * z = 2 ^ K * z * q := by ac_rfl
    omega
  · exact h1
theorem way_big {B p q L R nd N E : Nat} {g : Nat → Nat} {tr : Bool} (hq : 0 < q) (w : Fs.Way B p q L R g nd 0 tr N E) (h5 : 53 ≤ g 0) (hLR : L + 1025 ≤ R) : ∃ r, Near p q r ∧ min r 9218868437227405312 = 9218868437227405312 := by
  obtain ⟨r, hr⟩ := near_ex (p := p) hq
  refine ⟨r, hr, Nat.min_eq_right (near_big hq ?_ hr)⟩
  have h := w.dst
  have a1 := h.cut.low
  have a2 := h.first.2 h5
  have a3 := Nat.mul_le_mul_right (q * 2 ^ R) a2
  have a4 : 10 ^ B * (q * 2 ^ R) ≤ 10 ^ B * (2 * (p * 2 ^ L)) := by
    calc _ ≤ 2 * (N * 10 ^ E) * (q * 2 ^ R) := a3
      _ = 2 * (N * 10 ^ E * (q * 2 ^ R)) := Nat.mul_assoc ..
      _ ≤ 2 * (p * 2 ^ L * 10 ^ B) := Nat.mul_le_mul_left _ a1
      _ = _ := by ac_rfl
  have a5 := Nat.le_of_mul_le_mul_left a4 (p10 B)
  obtain ⟨K, hK⟩ : ∃ K, K = 1024 := ⟨_, rfl⟩
  rw [← hK]
  have a6 : q * 2 ^ (L + (K + 1)) ≤ q * 2 ^ R := Nat.mul_le_mul_left _ (two_mono (by omega))
  have a7 : 2 * 2 ^ L * (2 ^ K * q) ≤ 2 * 2 ^ L * p := by
    calc _ = q * 2 ^ (L + (K + 1)) := by rw [Nat.pow_add, Nat.pow_succ]; ac_rfl
      _ ≤ q * 2 ^ R := a6
      _ ≤ 2 * (p * 2 ^ L) := a5
      _ = _ := by ac_rfl
  exact Nat.le_of_mul_le_mul_left a7 (Nat.mul_pos (by decide) (p2 L))
end Go.Proofs.YtellndmbllmjgaaGreatDoor
