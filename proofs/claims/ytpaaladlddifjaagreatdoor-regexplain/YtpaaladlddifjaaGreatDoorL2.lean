/- The statement's own walk. -/
import Derived.Test.YtpaaladlddifjaaGreatDoorL1
set_option linter.unusedVariables false
namespace Go.Proofs.YtpaaladlddifjaaGreatDoor
open Go.RowKit Re

set_option maxRecDepth 100000 in
theorem law_big (a b : Option Addr) (n m cn cm : Nat) (x : Int) (w : World) (h : 300 < n ∨ 2000 < m) :
    Calls Tryz.prog 3 #[.slice a n cn, .slice b m cm, .int .i64 x] w fun e w' => e = .returned (.bool true) ∧ w' = w := by
  by_cases h1 : (300 : Int) < (n : Int)
  · go_enter Tryz.func3, Tryz.ntmps3
    go_wp2
    go_ret
    exact ⟨rfl, rfl⟩
  · have h2 : (2000 : Int) < (m : Int) := by omega
    go_enter Tryz.func3, Tryz.ntmps3
    go_wp2
    go_ret
    exact ⟨rfl, rfl⟩
/-- Where what stands first, of the places from one to ahead of another. -/
def Aim (us l : List Nat) (start q : Nat) (v : Value) : Prop :=
  (v = .int .i64 (-1) ∧ ∀ j, start ≤ j → j < q → ¬ Here us l j) ∨
  (∃ j, q = j + 1 ∧ v = .int .i64 (j : Int) ∧ start ≤ j ∧ Here us l j ∧ ∀ i, start ≤ i → i < j → ¬ Here us l i)
theorem got_cells {w : World} {N start q' j : Nat} {us l : List Nat} {fv : Value} (g1 : Got w N us l start q' fv) (g2 : fv = .slice none 0 0 → q' = l.length + 1) (hj : start ≤ j ∧ Here us l j ∧ ∀ i, start ≤ i → i < j → ¬ Here us l i) :
    ∃ g cap, fv = .slice (some ⟨g, 0, none⟩) 2 cap ∧ w.cell? ⟨g, 0, none⟩ = some (.int .i64 (j : Int)) ∧ w.cell? ⟨g, 1, none⟩ = some (.int .i64 ((j : Int) + (us.length : Int))) := by
  obtain ⟨h1, h2, h3⟩ := hj
  rcases g1 with ⟨rfl, hno⟩ | ⟨i, _, i1, i2, i3, hown⟩
  · exact absurd h2 (hno j h1 (by have := g2 rfl; have := h2.1; omega))
  · have hij : i = j := by
      rcases Nat.lt_trichotomy i j with h | h | h
      · exact absurd i2 (h3 i i1 h)
      · exact h
      · exact absurd h2 (i3 j h1 h)
    subst hij
    obtain ⟨g, cap, rfl, c0⟩ := owns_at hown (show 0 < 2 by omega)
    obtain ⟨g', cap', e, c1⟩ := owns_at hown (show 1 < 2 by omega)
    cases e
    exact ⟨g, cap, rfl, c0, c1⟩
set_option maxRecDepth 100000 in
set_option maxHeartbeats 2000000 in
theorem law_main {w : World} {us l : List Nat} {wv tv : Value} (hu : ∀ u ∈ us, u < 65536) (hl : ∀ u ∈ l, u < 65536) (hn : us.length ≤ 300) (hm : l.length ≤ 2000) (hW : TextA w wv us) (hT : TextA w tv l) (x : Int) (hx1 : -9223372036854775808 ≤ x) (hx2 : x ≤ 9223372036854775807) :
    Calls Tryz.prog 3 #[wv, tv, .int .i64 x] w fun e w' => e = .returned (.bool true) ∧ Kx [] w w' := by
  have HW : Hid (TextA w wv us) := hW
  have HT : Hid (TextA w tv l) := hT
  obtain ⟨a, cn, rfl, hwc⟩ := hW
  obtain ⟨b, cm, rfl, htc⟩ := hT
  have n1 : ¬ (300 : Int) < (us.length : Int) := by omega
  have n2 : ¬ (2000 : Int) < (l.length : Int) := by omega
  go_enter Tryz.func3, Tryz.ntmps3
  go_wp2
  have JWC : Hid (us ≠ [] → ∃ b off, a = some ⟨b, off, none⟩ ∧ ∀ j, j < us.length → w.cell? ⟨b, off + j, none⟩ = some (.int .u16 ((us[j]?.getD 0 : Nat) : Int))) := hwc
  have JTC : Hid (l ≠ [] → ∃ b' off, b = some ⟨b', off, none⟩ ∧ ∀ j, j < l.length → w.cell? ⟨b', off + j, none⟩ = some (.int .u16 ((l[j]?.getD 0 : Nat) : Int))) := htc
  clear hwc htc
  go_loopw [7, 8] (fun v i wr => ∃ k : Nat, k ≤ us.length ∧ v = .string (txt (pat (us.take k))) ∧ i = .int .i64 (k : Int) ∧ Kx [] w wr) (fun _ i _ => us.length - (intOf i).toNat)
  case atStart => exact ⟨0, Nat.zero_le _, rfl, rfl, Kx.refl _ _⟩
  case round =>
    obtain ⟨k, hk, rfl, rfl, hK⟩ := hrel
    by_cases hlt : k < us.length
    · obtain ⟨wb, wo, rfl, hc⟩ := JWC.out (fun e => by rw [e] at hlt; simp at hlt)
      have x0 : wr.cell? ⟨wb, wo + k, none⟩ = some (.int .u16 ((us[k]?.getD 0 : Nat) : Int)) := hK.cell (hc k hlt) (by simp)
      have HE : Hid (txt (pat (us.take k)) ++ txt (esc (us[k]?.getD 0)) = txt (pat (us.take (k + 1)))) := by
        rw [take_snoc us k hlt, pat_append, txt_append]
        simp [Hid, pat]
      have hux := us_lt hu k
      have ch := fun W => hex_any (us[k]?.getD 0) hux W
      have z1 : (txt (pat (us.take k))).size = 6 * k := by rw [txt_size, pat_len, List.length_take]; omega
      have z2 : (txt (esc (us[k]?.getD 0))).size = 6 := by rw [txt_size]; rfl
      generalize us[k]?.getD 0 = u at *
      generalize txt (pat (us.take k)) = s1 at *
      generalize txt (esc u) = s2 at *
      clear hc
      have JK : Hid (Kx [] w wr) := hK
      clear hK
      go_wp2_with (first | (go_at_call 4; refine (ch _).mono ?_; rintro e w1 ⟨rfl, hk1⟩))
      go_roundw
      case rel => exact ⟨k + 1, by omega, by rw [HE.out], by go_num, JK.out.same hk1⟩
      case measure => simp [intOf]; omega
    · obtain rfl : k = us.length := by omega
      rw [List.take_length]
      have cc := pcompile_u us hu hn wr
      have hne : ∀ (g : Addr) (w : World), (binOp BinOp.eql 25 (.pointer (some g)) (.pointer none)).run Tryz.prog w = .ok (.bool false) w := fun _ _ => by kernel_rfl
      have cp : ∀ W, Calls Tryz.prog 6 #[.int .i64 x, .int .i64 ((l.length : Int) + 1)] W fun e w' => ∃ k : Nat, k < l.length + 1 ∧ e = .returned (.int .i64 (k : Int)) ∧ w' = W := fun W => pick_any x hx1 hx2 (l.length + 1) (by omega) (by omega) W
      have JK : Hid (Kx [] w wr) := hK
      clear hK
      go_wp2_with (first | (go_at_call 5; refine cc.mono ?_; rintro e w1 ⟨P, rfl, r1, r2, r3⟩; have JP : Hid (PatIs w1 wr.heap.size P us ∧ Kx [] w w1) := ⟨r2, JK.out.same r3⟩; clear r1 r2 r3) | (go_at_call 6; refine (cp _).mono ?_; rintro e w2 ⟨start, hst, rfl, rfl⟩))
      obtain ⟨P1, K1⟩ := JP.out
      have JP1 : Hid (PatIs w2 wr.heap.size P us) := P1
      have JK1 : Hid (Kx [] w w2) := K1
      clear P1 K1 JP cc cp JK
      generalize wr.heap.size = N0 at *
      go_loopw [13, 14] (fun v i wq => ∃ q : Nat, start ≤ q ∧ q ≤ l.length + 1 ∧ i = .int .i64 (q : Int) ∧ Aim us l start q v ∧ Kx [] w2 wq) (fun _ i _ => l.length + 2 - (intOf i).toNat)
      case atStart => exact ⟨start, Nat.le_refl _, by omega, rfl, .inl ⟨rfl, fun j h1 h2 => absurd h2 (by omega)⟩, Kx.refl _ _⟩
      case round =>
        obtain ⟨q, hq1, hq2, rfl, haim, hKq⟩ := hrel
        have JKq : Hid (Kx [] w wr) := JK1.out.same hKq
        have cF := pfind_any hu hn hl hm (HT.out.kept (JK1.out.same hKq) (by simp)) start (by omega) (JP1.out.kept hKq (by simp))
        have e1 : ∀ w : World, (binOp BinOp.eql 30 (.slice none 0 0) (.slice none 0 0)).run Tryz.prog w = .ok (.bool true) w := fun _ => by kernel_rfl
        rcases haim with ⟨rfl, hno⟩ | ⟨j, rfl, rfl, hj1, hj2, hj3⟩
        · by_cases hle : q + us.length ≤ l.length
          · have hle' : (q : Int) + (us.length : Int) ≤ (l.length : Int) := by omega
            have HN : Hid (∀ j, start ≤ j → j < q → ¬ Here us l j) := hno
            have JKw : Hid (Kx [] w2 wr) := hKq
            clear hno hKq cF
            go_wp2
            go_loopw [15, 16] (fun v i wi => ∃ (k : Nat) (hb : Bool), k ≤ us.length ∧ v = .bool hb ∧ i = .int .i64 (k : Int) ∧ (hb = true → ∀ j, j < k → l[q + j]?.getD 0 = us[j]?.getD 0) ∧ (hb = false → ¬ Here us l q) ∧ Kx [] w2 wi) (fun _ i _ => us.length - (intOf i).toNat)
            case atStart => exact ⟨0, true, Nat.zero_le _, rfl, rfl, fun _ j hj => absurd hj (by omega), fun h => by simp at h, JKw.out⟩
            case round =>
              obtain ⟨k, hb, hk2, rfl, rfl, hy, hnn, hKi⟩ := hrel
              have JKi : Hid (Kx [] w2 wr) := hKi
              have HY : Hid (hb = true → ∀ j, j < k → l[q + j]?.getD 0 = us[j]?.getD 0) := hy
              have HNN : Hid (hb = false → ¬ Here us l q) := hnn
              clear hy hnn hKi
              cases hb with
              | false =>
                go_wp2
                all_goals
                  go_roundw
                  case rel => exact ⟨q + 1, by omega, by omega, by go_num, .inl ⟨rfl, fun j h1 h2 => by
                    rcases Nat.lt_or_ge j q with h3 | h3
                    · exact HN.out j h1 h3
                    · obtain rfl : j = q := by omega
                      exact HNN.out rfl⟩, JKi.out⟩
                  case measure => simp [intOf]; omega
              | true =>
                by_cases hkl : k < us.length
                · obtain ⟨wb, wo, rfl, hwc⟩ := JWC.out (fun e => by rw [e] at hkl; simp at hkl)
                  obtain ⟨tb, to, rfl, htc⟩ := JTC.out (by intro e; have h9 : l.length = 0 := (by rw [e]; rfl); omega)
                  have x0 : wr.cell? ⟨wb, wo + k, none⟩ = some (.int .u16 ((us[k]?.getD 0 : Nat) : Int)) := JKi.out.cell (JK1.out.cell (hwc k hkl) (by simp)) (by simp)
                  have x1 : wr.cell? ⟨tb, to + (q + k), none⟩ = some (.int .u16 ((l[q + k]?.getD 0 : Nat) : Int)) := JKi.out.cell (JK1.out.cell (htc (q + k) (by omega)) (by simp)) (by simp)
                  have HX : Hid (∀ y z, y = l[q + k]?.getD 0 → z = us[k]?.getD 0 → Here us l q → y = z) := fun y z e1 e2 hh => by rw [e1, e2]; exact hh.2 k hkl
                  have HZ : Hid (∀ y z, y = l[q + k]?.getD 0 → z = us[k]?.getD 0 → y = z → ∀ j, j < k + 1 → l[q + j]?.getD 0 = us[j]?.getD 0) := fun y z e1 e2 hh j hj => by
                    rcases Nat.lt_or_ge j k with h | h
                    · exact HY.out rfl j h
                    · obtain rfl : j = k := by omega
                      rw [← e1, ← e2]; exact hh
                  generalize l[q + k]?.getD 0 = y at *
                  generalize us[k]?.getD 0 = z at *
                  have hi1 : (q : Int) + (k : Int) < (l.length : Int) := by omega
                  have hi2 : (k : Int) < (us.length : Int) := by omega
                  clear hwc htc
                  go_wp2
                  go_quiet (fail)
                  go_wp2
                  go_roundw
                  case rel =>
                    refine ⟨k + 1, decide (y = z), by omega, by rw [nat_beq], by go_num, fun h => ?_, fun h hh => ?_, JKi.out.drw _⟩
                    · exact HZ.out y z rfl rfl (of_decide_eq_true h)
                    · exact of_decide_eq_false h (HX.out y z rfl rfl hh)
                  case measure => simp [intOf]; omega
                · obtain rfl : k = us.length := by omega
                  have HH : Hid (Here us l q) := ⟨hle, HY.out rfl⟩
                  go_wp2
                  go_roundw
                  case rel => exact ⟨q + 1, by omega, by omega, by go_num, .inr ⟨q, rfl, rfl, hq1, HH.out, HN.out⟩, JKi.out⟩
                  case measure => simp [intOf]; omega
          · have hle' : ¬ (q : Int) + (us.length : Int) ≤ (l.length : Int) := by omega
            have hno2 : ∀ j, start ≤ j → ¬ Here us l j := fun j h1 h2 => hno j h1 (by have := h2.1; omega) h2
            have HN : Hid (∀ j, start ≤ j → ¬ Here us l j) := hno2
            clear hno hno2 hKq
            go_wp2_with (first | (go_at_call 7; refine cF.mono ?_; rintro e w3 ⟨fv, took, q', rfl, g1, g2, g3⟩; have hfv : fv = .slice none 0 0 := (by rcases g1 with ⟨h, _⟩ | ⟨i, _, h1, h2, _⟩; (· exact h); (· exact absurd h2 (HN.out i h1))); subst hfv; have JKR : Hid (Kx [] w w3) := JKq.out.same g3; clear g1 g2 g3))
            go_ret
            exact ⟨rfl, JKR.out⟩
        · have JJ : Hid (start ≤ j ∧ Here us l j ∧ ∀ i, start ≤ i → i < j → ¬ Here us l i) := ⟨hj1, hj2, hj3⟩
          have hjl : j + us.length ≤ l.length := hj2.1
          have hjn : ¬ (j : Int) < 0 := by omega
          clear hj1 hj2 hj3 hKq
          by_cases hle : ((j + 1 : Nat) : Int) + (us.length : Int) ≤ (l.length : Int)
          · go_wp2_with (first | (go_at_call 7; refine cF.mono ?_; rintro e w3 ⟨fv, took, q', rfl, g1, g2, g3⟩; have JKR : Hid (Kx [] w w3) := JKq.out.same g3; obtain ⟨g, cap, rfl, y0, y1⟩ := got_cells g1 g2 JJ.out; clear g1 g2 g3))
            go_ret
            exact ⟨rfl, JKR.out⟩
          · go_wp2_with (first | (go_at_call 7; refine cF.mono ?_; rintro e w3 ⟨fv, took, q', rfl, g1, g2, g3⟩; have JKR : Hid (Kx [] w w3) := JKq.out.same g3; obtain ⟨g, cap, rfl, y0, y1⟩ := got_cells g1 g2 JJ.out; clear g1 g2 g3))
            go_ret
            exact ⟨rfl, JKR.out⟩
end Go.Proofs.YtpaaladlddifjaaGreatDoor
