/- The walk of the document's own Text. -/
import Derived.Test.YtellndmbllmjgaaGreatDoorCUr2
import Derived.Test.YtellndmbllmjgaaGreatDoorCFs1x
import Derived.Test.YtellndmbllmjgaaGreatDoorCUt3x
set_option linter.unusedVariables false
namespace Go.Proofs.YtellndmbllmjgaaGreatDoor.Ut
open Go.RowKit Go.Shelf

set_option maxHeartbeats 1000000 in
theorem first_any (u : Nat) (w : World) :
    Calls Tryz.prog 151 #[.int .u16 (u : Int)] w fun e w' => e = .returned (.bool (Un.isF u)) ∧ w' = w := by
  unfold Un.isF
  by_cases h1 : (55296 : Int) ≤ u
  · by_cases h2 : (u : Int) < 56320
    all_goals
      go_enter Tryz.func151, Tryz.ntmps151
      go_wp2
      go_ret
      exact ⟨by simp; omega, rfl⟩
  · go_enter Tryz.func151, Tryz.ntmps151
    go_wp2
    go_ret
    exact ⟨by simp; omega, rfl⟩
set_option maxHeartbeats 1000000 in
theorem second_any (u : Nat) (w : World) :
    Calls Tryz.prog 152 #[.int .u16 (u : Int)] w fun e w' => e = .returned (.bool (Un.isS u)) ∧ w' = w := by
  unfold Un.isS
  by_cases h1 : (56320 : Int) ≤ u
  · by_cases h2 : (u : Int) < 57344
    all_goals
      go_enter Tryz.func152, Tryz.ntmps152
      go_wp2
      go_ret
      exact ⟨by simp; omega, rfl⟩
  · go_enter Tryz.func152, Tryz.ntmps152
    go_wp2
    go_ret
    exact ⟨by simp; omega, rfl⟩

theorem conv_nil (W : World) : (convert 92 9 (.slice none 0 0)).run Tryz.prog W = .ok (.string ⟨#[]⟩) W := by kernel_rfl

theorem appHalf {W : World} {base : Nat} {v : Value} {bs : List Nat} {u : Nat} (h1 : 55296 ≤ u) (h2 : u < 57344) (h : W.ownsRow base 5 1 v (bs.length + 3) (bs.map bv ++ [.int .u8 237, .int .u8 (128 + (u : Int) / 64 % 64), .int .u8 (128 + (u : Int) % 64)])) :
    W.ownsRow base 5 1 v (bs ++ Un.encR u).length ((bs ++ Un.encR u).map bv) := by
  have e : Un.encR u = [237, 128 + u / 64 % 64, 128 + u % 64] := by
    unfold Un.encR
    rw [if_neg (by omega), if_neg (by omega), if_pos (by omega)]
    have : 224 + u / 4096 = 237 := by omega
    rw [this]
  rw [e, List.length_append, List.map_append]
  exact h

set_option maxRecDepth 100000 in
set_option maxHeartbeats 8000000 in
theorem refText_any (sv : Value) (us : List Nat) (hu : ∀ u ∈ us, u < 65536) (hlen : us.length ≤ 200000) (w : World) (hL : Row16 w.heap.size w sv us) :
    Calls Tryz.prog 99 #[sv] w fun e W' => e = .returned (.string (txt us)) ∧ Below w.heap.size w W' := by
  obtain ⟨i0, hi, hz0, hz1, hz2⟩ := info_parts info5
  have hbt : ∀ b ∈ txtB us, b < 256 := by
    intro b hb
    obtain ⟨r, hr, hb⟩ := List.mem_flatMap.1 hb
    exact Un.encR_lt r (Un.pts_lt us hu r hr) b hb
  have HB := (show Hid _ from hbt)
  have hgd := getD_lt hu
  have HG := (show Hid _ from hgd)
  clear hbt hgd hu
  obtain ⟨sa, sc, rfl⟩ := hL.slice
  go_enter Tryz.func99, Tryz.ntmps99
  go_wp2
  go_loopw [3, 4] (fun l i wr => ∃ (k : Nat) (bs : List Nat), k ≤ us.length ∧ bs.length ≤ 4 * k ∧ i = .int .i64 k ∧ wr.ownsRow w.heap.size 5 1 l bs.length (bs.map bv) ∧ bs ++ (Un.pts (us.drop k)).flatMap Un.encR = txtB us ∧ Below w.heap.size w wr)
    (fun _ i _ => us.length - (intOf i).toNat)
  case atStart => exact ⟨0, [], Nat.zero_le _, Nat.le_refl _, rfl, World.ownsRow_nil _ _ _ _, rfl, Below.refl _ _⟩
  case round =>
    obtain ⟨k, bs, hk, hbl, rfl, hrow, hsum, hbw⟩ := hrel
    have HS : Hid (bs ++ (Un.pts (us.drop k)).flatMap Un.encR = txtB us) := hsum
    clear hsum
    by_cases hlt : k < us.length
    · rcases hL with ⟨_, hun⟩ | ⟨b, off, cap, e, hb, hc⟩
      · rw [hun] at hlt; simp at hlt
      cases e
      have hcx : ∀ j, j < us.length → wr.cell? ⟨b, off + j, none⟩ = some (.int .u16 ((us[j]?.getD 0 : Nat) : Int)) := fun j h => (hbw.cell (p := ⟨b, off + j, none⟩) hb).trans (hc j h)
      have hc0 := hcx k hlt
      have hu0 := HG.out k
      have hu1 := HG.out (k + 1)
      have q3 : bs.length + 3 ≤ maxLen := by unfold maxLen; omega
      by_cases hpair : k + 1 < us.length ∧ (Un.isF (us[k]?.getD 0) && Un.isS (us[k + 1]?.getD 0)) = true
      · obtain ⟨h2, hfs⟩ := hpair
        have hc1 := hcx (k + 1) h2
        have hstep := pts_drop_pair us k h2 hfs
        have hfs' := hfs
        rw [Bool.and_eq_true] at hfs
        obtain ⟨bf, bs2⟩ := hfs
        simp only [Un.isF, Un.isS, Bool.and_eq_true, decide_eq_true_eq] at hfs'
        clear hcx hc
        generalize us[k]?.getD 0 = u at *
        generalize us[k + 1]?.getD 0 = v at *
        obtain ⟨⟨f1, f2⟩, s1, s2⟩ := hfs'
        obtain ⟨x, HX⟩ : ∃ x : Pt, Hid (x.val = 65536 + (u - 55296) * 1024 + v - 56320) := ⟨⟨_, by omega⟩, rfl⟩
        have HT : Hid (Un.pts (us.drop k) = x.val :: Un.pts (us.drop (k + 2))) := hstep.trans (by rw [HX.out])
        clear hstep
        have hel := Un.encR_len x.val
        have cA := fun W (h1 : W.ownsRow w.heap.size 5 1 u3 bs.length (bs.map bv)) (h2 : w.heap.size ≤ W.heap.size) => appendRune_any w.heap.size u3 bs.length (bs.map bv) x.val x.2 (by rw [HX.out]; omega) W h1 (by omega) h2
        rw [show ((x.val : Nat) : Int) = 65536 + ((u : Int) - 55296) * 1024 + (v : Int) - 56320 by rw [HX.out]; omega] at cA
        have CA := (show Hid _ from cA)
        clear cA
        go_wp2_with (first
          | (go_at_call 151; refine (first_any u _).mono ?_; rintro e w' ⟨rfl, rfl⟩)
          | (go_at_call_of 152 (Value.int .u16 (u : Int)); refine (second_any u _).mono ?_; rintro e w' ⟨rfl, rfl⟩)
          | (go_at_call_of 152 (Value.int .u16 (v : Int)); refine (second_any v _).mono ?_; rintro e w' ⟨rfl, rfl⟩)
          | (go_at_call 153; refine (CA.out _ hrow hbw.size).mono ?_; rintro e w3 ⟨v', rfl, hown', o, hgrow⟩))
        have hb3 : Below w.heap.size w w3 := (hbw.alloc hbw.size o).grown hgrow (by have := hbw.size; simp; omega) (fun j e => (hrow.lt j e).1)
        go_roundw
        case rel => exact ⟨k + 2, bs ++ Un.encR x.val, by omega, by simp; omega, by go_num, by simpa using hown', by rw [← HS.out, HT.out, List.flatMap_cons, List.append_assoc], hb3⟩
        case measure => simp [intOf]; omega
      · have hstep := pts_drop_one us k hlt (fun h => by
          by_cases hh : (Un.isF (us[k]?.getD 0) && Un.isS (us[k + 1]?.getD 0)) = true
          · exact absurd ⟨h, hh⟩ hpair
          · simpa using hh)
        have h3 : (k + 1 < us.length ∧ Un.isF (us[k]?.getD 0) = true ∧ Un.isS (us[k + 1]?.getD 0) = false) ∨ (k + 1 < us.length ∧ Un.isF (us[k]?.getD 0) = false ∧ Un.isS (us[k]?.getD 0) = true) ∨ (k + 1 < us.length ∧ Un.isF (us[k]?.getD 0) = false ∧ Un.isS (us[k]?.getD 0) = false) ∨ (¬ (k + 1 < us.length) ∧ Un.isF (us[k]?.getD 0) = true) ∨ (¬ (k + 1 < us.length) ∧ Un.isF (us[k]?.getD 0) = false ∧ Un.isS (us[k]?.getD 0) = true) ∨ (¬ (k + 1 < us.length) ∧ Un.isF (us[k]?.getD 0) = false ∧ Un.isS (us[k]?.getD 0) = false) := by
          by_cases h : k + 1 < us.length
          · cases e1 : Un.isF (us[k]?.getD 0)
            · cases e2 : Un.isS (us[k]?.getD 0)
              · exact .inr (.inr (.inl ⟨h, rfl, rfl⟩))
              · exact .inr (.inl ⟨h, rfl, rfl⟩)
            · refine .inl ⟨h, rfl, ?_⟩
              cases e2 : Un.isS (us[k + 1]?.getD 0)
              · rfl
              · exact absurd ⟨h, by rw [e1, e2]; rfl⟩ hpair
          · cases e1 : Un.isF (us[k]?.getD 0)
            · cases e2 : Un.isS (us[k]?.getD 0)
              · exact .inr (.inr (.inr (.inr (.inr ⟨h, rfl, rfl⟩))))
              · exact .inr (.inr (.inr (.inr (.inl ⟨h, rfl, rfl⟩))))
            · exact .inr (.inr (.inr (.inl ⟨h, rfl⟩)))
        have hc1 := hcx (k + 1)
        clear hcx hc hpair
        generalize us[k]?.getD 0 = u at *
        generalize us[k + 1]?.getD 0 = v at *
        have HT : Hid (Un.pts (us.drop k) = u :: Un.pts (us.drop (k + 1))) := hstep
        clear hstep
        have hel := Un.encR_len u
        have cA := fun W (h0 : ¬ (55296 ≤ u ∧ u < 57344)) (h1 : W.ownsRow w.heap.size 5 1 u3 bs.length (bs.map bv)) (h2 : w.heap.size ≤ W.heap.size) => appendRune_any w.heap.size u3 bs.length (bs.map bv) u (by omega) h0 W h1 (by omega) h2
        have CA := (show Hid _ from cA)
        clear cA
        rcases h3 with ⟨h2, bf, bg⟩ | ⟨h2, bf, bg⟩ | ⟨h2, bf, bg⟩ | ⟨h2, bf⟩ | ⟨h2, bf, bg⟩ | ⟨h2, bf, bg⟩
        · replace hc1 := hc1 h2
          have f1 : 55296 ≤ u := by simp [Un.isF] at bf; omega
          have f2 : u < 57344 := by simp [Un.isF] at bf; omega
          go_wp2_with (first
            | (go_at_call 151; refine (first_any u _).mono ?_; rintro e w' ⟨rfl, rfl⟩)
            | (go_at_call_of 152 (Value.int .u16 (u : Int)); refine (second_any u _).mono ?_; rintro e w' ⟨rfl, rfl⟩)
            | (go_at_call_of 152 (Value.int .u16 (v : Int)); refine (second_any v _).mono ?_; rintro e w' ⟨rfl, rfl⟩)
            | (at_builtin; refine wpList_append_own _ rfl _ _ 92 rfl w.heap.size 5 i0 (.int .u8 0) 1 1 Tryz.underlying92 hi hz0 hz1 hz2 rfl (by decide) _ _ _ rfl (hrow.alloc _) ⟨_, 0, none⟩ 3 3 [.int .u8 237, .int .u8 (128 + (u : Int) / 64 % 64), .int .u8 (128 + (u : Int) % 64)] rfl rfl (cells_new _ [.int .u8 237, .int .u8 (128 + (u : Int) / 64 % 64), .int .u8 (128 + (u : Int) % 64)] 5) (one_ints .u8 [237, 128 + (u : Int) / 64 % 64, 128 + (u : Int) % 64]) q3 (by omega) (by have := hbw.size; simp; omega) ?_; intro v' w3 hown' hgrow hnil'))
          have hb3 : Below w.heap.size w w3 := (hbw.alloc hbw.size _).grown hgrow (by have := hbw.size; simp; omega) (fun j e => (hrow.lt j e).1)
          go_roundw
          case rel => exact ⟨k + 1, bs ++ Un.encR u, by omega, by simp; omega, by go_num, appHalf f1 f2 hown', by rw [← HS.out, HT.out, List.flatMap_cons, List.append_assoc], hb3⟩
          case measure => simp [intOf]; omega
        · replace hc1 := hc1 h2
          have f1 : 55296 ≤ u := by simp [Un.isS] at bg; omega
          have f2 : u < 57344 := by simp [Un.isS] at bg; omega
          go_wp2_with (first
            | (go_at_call 151; refine (first_any u _).mono ?_; rintro e w' ⟨rfl, rfl⟩)
            | (go_at_call_of 152 (Value.int .u16 (u : Int)); refine (second_any u _).mono ?_; rintro e w' ⟨rfl, rfl⟩)
            | (go_at_call_of 152 (Value.int .u16 (v : Int)); refine (second_any v _).mono ?_; rintro e w' ⟨rfl, rfl⟩)
            | (at_builtin; refine wpList_append_own _ rfl _ _ 92 rfl w.heap.size 5 i0 (.int .u8 0) 1 1 Tryz.underlying92 hi hz0 hz1 hz2 rfl (by decide) _ _ _ rfl (hrow.alloc _) ⟨_, 0, none⟩ 3 3 [.int .u8 237, .int .u8 (128 + (u : Int) / 64 % 64), .int .u8 (128 + (u : Int) % 64)] rfl rfl (cells_new _ [.int .u8 237, .int .u8 (128 + (u : Int) / 64 % 64), .int .u8 (128 + (u : Int) % 64)] 5) (one_ints .u8 [237, 128 + (u : Int) / 64 % 64, 128 + (u : Int) % 64]) q3 (by omega) (by have := hbw.size; simp; omega) ?_; intro v' w3 hown' hgrow hnil'))
          have hb3 : Below w.heap.size w w3 := (hbw.alloc hbw.size _).grown hgrow (by have := hbw.size; simp; omega) (fun j e => (hrow.lt j e).1)
          go_roundw
          case rel => exact ⟨k + 1, bs ++ Un.encR u, by omega, by simp; omega, by go_num, appHalf f1 f2 hown', by rw [← HS.out, HT.out, List.flatMap_cons, List.append_assoc], hb3⟩
          case measure => simp [intOf]; omega
        · replace hc1 := hc1 h2
          have hnh : ¬ (55296 ≤ u ∧ u < 57344) := by simp [Un.isF] at bf; simp [Un.isS] at bg; omega
          go_wp2_with (first
            | (go_at_call 151; refine (first_any u _).mono ?_; rintro e w' ⟨rfl, rfl⟩)
            | (go_at_call_of 152 (Value.int .u16 (u : Int)); refine (second_any u _).mono ?_; rintro e w' ⟨rfl, rfl⟩)
            | (go_at_call_of 152 (Value.int .u16 (v : Int)); refine (second_any v _).mono ?_; rintro e w' ⟨rfl, rfl⟩)
            | (go_at_call 153; refine (CA.out _ hnh hrow hbw.size).mono ?_; rintro e w3 ⟨v', rfl, hown', o, hgrow⟩))
          have hb3 : Below w.heap.size w w3 := (hbw.alloc hbw.size o).grown hgrow (by have := hbw.size; simp; omega) (fun j e => (hrow.lt j e).1)
          go_roundw
          case rel => exact ⟨k + 1, bs ++ Un.encR u, by omega, by simp; omega, by go_num, by simpa using hown', by rw [← HS.out, HT.out, List.flatMap_cons, List.append_assoc], hb3⟩
          case measure => simp [intOf]; omega
        · clear hc1
          have f1 : 55296 ≤ u := by simp [Un.isF] at bf; omega
          have f2 : u < 57344 := by simp [Un.isF] at bf; omega
          go_wp2_with (first
            | (go_at_call 151; refine (first_any u _).mono ?_; rintro e w' ⟨rfl, rfl⟩)
            | (go_at_call_of 152 (Value.int .u16 (u : Int)); refine (second_any u _).mono ?_; rintro e w' ⟨rfl, rfl⟩)
            | (at_builtin; refine wpList_append_own _ rfl _ _ 92 rfl w.heap.size 5 i0 (.int .u8 0) 1 1 Tryz.underlying92 hi hz0 hz1 hz2 rfl (by decide) _ _ _ rfl (hrow.alloc _) ⟨_, 0, none⟩ 3 3 [.int .u8 237, .int .u8 (128 + (u : Int) / 64 % 64), .int .u8 (128 + (u : Int) % 64)] rfl rfl (cells_new _ [.int .u8 237, .int .u8 (128 + (u : Int) / 64 % 64), .int .u8 (128 + (u : Int) % 64)] 5) (one_ints .u8 [237, 128 + (u : Int) / 64 % 64, 128 + (u : Int) % 64]) q3 (by omega) (by have := hbw.size; simp; omega) ?_; intro v' w3 hown' hgrow hnil'))
          have hb3 : Below w.heap.size w w3 := (hbw.alloc hbw.size _).grown hgrow (by have := hbw.size; simp; omega) (fun j e => (hrow.lt j e).1)
          go_roundw
          case rel => exact ⟨k + 1, bs ++ Un.encR u, by omega, by simp; omega, by go_num, appHalf f1 f2 hown', by rw [← HS.out, HT.out, List.flatMap_cons, List.append_assoc], hb3⟩
          case measure => simp [intOf]; omega
        · clear hc1
          have f1 : 55296 ≤ u := by simp [Un.isS] at bg; omega
          have f2 : u < 57344 := by simp [Un.isS] at bg; omega
          go_wp2_with (first
            | (go_at_call 151; refine (first_any u _).mono ?_; rintro e w' ⟨rfl, rfl⟩)
            | (go_at_call_of 152 (Value.int .u16 (u : Int)); refine (second_any u _).mono ?_; rintro e w' ⟨rfl, rfl⟩)
            | (at_builtin; refine wpList_append_own _ rfl _ _ 92 rfl w.heap.size 5 i0 (.int .u8 0) 1 1 Tryz.underlying92 hi hz0 hz1 hz2 rfl (by decide) _ _ _ rfl (hrow.alloc _) ⟨_, 0, none⟩ 3 3 [.int .u8 237, .int .u8 (128 + (u : Int) / 64 % 64), .int .u8 (128 + (u : Int) % 64)] rfl rfl (cells_new _ [.int .u8 237, .int .u8 (128 + (u : Int) / 64 % 64), .int .u8 (128 + (u : Int) % 64)] 5) (one_ints .u8 [237, 128 + (u : Int) / 64 % 64, 128 + (u : Int) % 64]) q3 (by omega) (by have := hbw.size; simp; omega) ?_; intro v' w3 hown' hgrow hnil'))
          have hb3 : Below w.heap.size w w3 := (hbw.alloc hbw.size _).grown hgrow (by have := hbw.size; simp; omega) (fun j e => (hrow.lt j e).1)
          go_roundw
          case rel => exact ⟨k + 1, bs ++ Un.encR u, by omega, by simp; omega, by go_num, appHalf f1 f2 hown', by rw [← HS.out, HT.out, List.flatMap_cons, List.append_assoc], hb3⟩
          case measure => simp [intOf]; omega
        · clear hc1
          have hnh : ¬ (55296 ≤ u ∧ u < 57344) := by simp [Un.isF] at bf; simp [Un.isS] at bg; omega
          go_wp2_with (first
            | (go_at_call 151; refine (first_any u _).mono ?_; rintro e w' ⟨rfl, rfl⟩)
            | (go_at_call_of 152 (Value.int .u16 (u : Int)); refine (second_any u _).mono ?_; rintro e w' ⟨rfl, rfl⟩)
            | (go_at_call 153; refine (CA.out _ hnh hrow hbw.size).mono ?_; rintro e w3 ⟨v', rfl, hown', o, hgrow⟩))
          have hb3 : Below w.heap.size w w3 := (hbw.alloc hbw.size o).grown hgrow (by have := hbw.size; simp; omega) (fun j e => (hrow.lt j e).1)
          go_roundw
          case rel => exact ⟨k + 1, bs ++ Un.encR u, by omega, by simp; omega, by go_num, by simpa using hown', by rw [← HS.out, HT.out, List.flatMap_cons, List.append_assoc], hb3⟩
          case measure => simp [intOf]; omega
    · obtain rfl : k = us.length := by omega
      have hfin : bs = txtB us := by
        have := HS.out
        rw [List.drop_length] at this
        simpa [Un.pts] using this
      have hcv : (convert 92 9 u3).run Tryz.prog wr = .ok (.string (txt us)) wr := by
        subst hfin
        rcases hrow.2 with ⟨rfl, h0⟩ | ⟨g, cap, _, rfl, _⟩
        · have : txtB us = [] := List.eq_nil_of_length_eq_zero h0
          unfold txt
          rw [this]
          exact conv_nil wr
        · exact conv_row HB.out hrow
      clear hfin
      go_wp2
      go_ret
      exact ⟨rfl, hbw⟩
end Go.Proofs.YtellndmbllmjgaaGreatDoor.Ut
/- The walk of the document's own White. -/
set_option linter.unusedVariables false
namespace Go.Proofs.YtellndmbllmjgaaGreatDoor.Ut
open Go.RowKit Go.Shelf Go.Lib

set_option maxRecDepth 100000 in
set_option maxHeartbeats 4000000 in
theorem refWhite_any (u : Nat) (hu : u < 65536) (w : World) (hZ : RVar 3 zsT w) :
    Calls Tryz.prog 150 #[.int .u16 (u : Int)] w fun e w' => e = .returned (.bool (whiteU u)) ∧ Below w.heap.size w w' := by
  obtain ⟨Tb, oT, hp, hA⟩ := hZ
  have cI := Tryz.unicode_Is_any Tb oT zsT (u : Int) w (by omega) (by omega) hA zsT_ok
  have b10 := beqI u 10 10 rfl
  have b13 := beqI u 13 13 rfl
  have b8232 := beqI u 8232 8232 rfl
  have b8233 := beqI u 8233 8233 rfl
  have b9 := beqI u 9 9 rfl
  have b11 := beqI u 11 11 rfl
  have b12 := beqI u 12 12 rfl
  have b32 := beqI u 32 32 rfl
  have b160 := beqI u 160 160 rfl
  have b65279 := beqI u 65279 65279 rfl
  have g32 : (u == 32) = true → isGo zsT (u : Int) = true := fun h => by
    have e : u = 32 := by simpa using h
    subst e
    exact zs_small ⟨32, by omega⟩
  have g160 : (u == 160) = true → isGo zsT (u : Int) = true := fun h => by
    have e : u = 160 := by simpa using h
    subst e
    exact zs_160
  have gsm : u ≤ 127 → (u == 32) = false → isGo zsT (u : Int) = false := fun h1 h2 => by
    have := zs_small ⟨u, by omega⟩
    rw [this]
    simpa using h2
  have hW : Hid (whiteU u = ((u == 9 || u == 11 || u == 12 || u == 65279 || u == 10 || u == 13 || u == 8232 || u == 8233) || isGo zsT (u : Int))) := rfl
  generalize whiteU u = W at *
  generalize isGo zsT (u : Int) = G at *
  cases c10 : (u == 10)
  · rw [c10] at b10
    cases c13 : (u == 13)
    · rw [c13] at b13
      cases c8232 : (u == 8232)
      · rw [c8232] at b8232
        cases c8233 : (u == 8233)
        · rw [c8233] at b8233
          cases c9 : (u == 9)
          · rw [c9] at b9
            cases c11 : (u == 11)
            · rw [c11] at b11
              cases c12 : (u == 12)
              · rw [c12] at b12
                cases c32 : (u == 32)
                · rw [c32] at b32
                  cases c160 : (u == 160)
                  · rw [c160] at b160
                    cases c65279 : (u == 65279)
                    · rw [c65279] at b65279
                      have hWG : W = G := by rw [hW.out, c9, c11, c12, c65279, c10, c13, c8232, c8233]; rfl
                      by_cases h127 : u ≤ 127
                      · have hG : G = false := gsm h127 c32
                        subst hWG
                        subst hG
                        have h1 : ¬ (127 : Int) < (u : Int) := by omega
                        clear c10 c13 c8232 c8233 c9 c11 c12 c32 c160 c65279 hW g32 g160 gsm
                        go_enter Tryz.func150, Tryz.ntmps150
                        go_wp2
                        go_ret
                        exact ⟨rfl, Below.refl _ _⟩
                      · subst hWG
                        have h1 : (127 : Int) < (u : Int) := by omega
                        clear c10 c13 c8232 c8233 c9 c11 c12 c32 c160 c65279 hW g32 g160 gsm
                        go_enter Tryz.func150, Tryz.ntmps150
                        go_wp2_with (first | (go_at_call 136; refine cI.mono ?_; rintro e w' ⟨rfl, hbw⟩) | go_in)
                        go_ret
                        exact ⟨rfl, hbw⟩
                    · rw [c65279] at b65279
                      have hWG : W = true := by rw [hW.out, c65279]; simp
                      subst hWG
                      clear c10 c13 c8232 c8233 c9 c11 c12 c32 c160 c65279  hW g32 g160 gsm
                      go_enter Tryz.func150, Tryz.ntmps150
                      go_wp2
                      go_ret
                      exact ⟨rfl, Below.refl _ _⟩
                  · rw [c160] at b160
                    have hWG : W = true := by rw [hW.out, g160 c160]; simp
                    subst hWG
                    clear c10 c13 c8232 c8233 c9 c11 c12 c32 c160 b65279 hW g32 g160 gsm
                    go_enter Tryz.func150, Tryz.ntmps150
                    go_wp2
                    go_ret
                    exact ⟨rfl, Below.refl _ _⟩
                · rw [c32] at b32
                  have hWG : W = true := by rw [hW.out, g32 c32]; simp
                  subst hWG
                  clear c10 c13 c8232 c8233 c9 c11 c12 c32 b160 b65279 hW g32 g160 gsm
                  go_enter Tryz.func150, Tryz.ntmps150
                  go_wp2
                  go_ret
                  exact ⟨rfl, Below.refl _ _⟩
              · rw [c12] at b12
                have hWG : W = true := by rw [hW.out, c12]; simp
                subst hWG
                clear c10 c13 c8232 c8233 c9 c11 c12 b32 b160 b65279 hW g32 g160 gsm
                go_enter Tryz.func150, Tryz.ntmps150
                go_wp2
                go_ret
                exact ⟨rfl, Below.refl _ _⟩
            · rw [c11] at b11
              have hWG : W = true := by rw [hW.out, c11]; simp
              subst hWG
              clear c10 c13 c8232 c8233 c9 c11 b12 b32 b160 b65279 hW g32 g160 gsm
              go_enter Tryz.func150, Tryz.ntmps150
              go_wp2
              go_ret
              exact ⟨rfl, Below.refl _ _⟩
          · rw [c9] at b9
            have hWG : W = true := by rw [hW.out, c9]; simp
            subst hWG
            clear c10 c13 c8232 c8233 c9 b11 b12 b32 b160 b65279 hW g32 g160 gsm
            go_enter Tryz.func150, Tryz.ntmps150
            go_wp2
            go_ret
            exact ⟨rfl, Below.refl _ _⟩
        · rw [c8233] at b8233
          have hWG : W = true := by rw [hW.out, c8233]; simp
          subst hWG
          clear c10 c13 c8232 c8233 b9 b11 b12 b32 b160 b65279 hW g32 g160 gsm
          go_enter Tryz.func150, Tryz.ntmps150
          go_wp2
          go_ret
          exact ⟨rfl, Below.refl _ _⟩
      · rw [c8232] at b8232
        have hWG : W = true := by rw [hW.out, c8232]; simp
        subst hWG
        clear c10 c13 c8232 b8233 b9 b11 b12 b32 b160 b65279 hW g32 g160 gsm
        go_enter Tryz.func150, Tryz.ntmps150
        go_wp2
        go_ret
        exact ⟨rfl, Below.refl _ _⟩
    · rw [c13] at b13
      have hWG : W = true := by rw [hW.out, c13]; simp
      subst hWG
      clear c10 c13 b8232 b8233 b9 b11 b12 b32 b160 b65279 hW g32 g160 gsm
      go_enter Tryz.func150, Tryz.ntmps150
      go_wp2
      go_ret
      exact ⟨rfl, Below.refl _ _⟩
  · rw [c10] at b10
    have hWG : W = true := by rw [hW.out, c10]; simp
    subst hWG
    clear c10 b13 b8232 b8233 b9 b11 b12 b32 b160 b65279 hW g32 g160 gsm
    go_enter Tryz.func150, Tryz.ntmps150
    go_wp2
    go_ret
    exact ⟨rfl, Below.refl _ _⟩
end Go.Proofs.YtellndmbllmjgaaGreatDoor.Ut
/- The walk of the document's own Trim. -/
set_option linter.unusedVariables false
namespace Go.Proofs.YtellndmbllmjgaaGreatDoor.Ut
open Go.RowKit Go.Shelf Go.Lib

set_option maxRecDepth 100000 in
set_option maxHeartbeats 4000000 in
theorem refTrim_any (sv : Value) (us : List Nat) (hu : ∀ u ∈ us, u < 65536) (hlen : us.length ≤ 200000) (w : World) (hR : RowC w sv us) (hZ : RVar 3 zsT w) :
    Calls Tryz.prog 98 #[sv] w fun e w' => ∃ sv', e = .returned sv' ∧ RowC w' sv' (trimU us) ∧ Below w.heap.size w w' := by
  have HG := (show Hid _ from (getD_lt hu))
  have hR0 := hR
  obtain ⟨a, cap, rfl, hcap, hcm, hcell⟩ := hR
  unfold maxLen at hcm
  have HC := (show Hid _ from hcell)
  clear hcell hu
  go_enter Tryz.func98, Tryz.ntmps98
  go_wp2
  go_loopw [3] (fun i wr => ∃ k : Nat, k ≤ us.length ∧ i = .int .i64 k ∧ (us.drop k).dropWhile whiteU = ltrim us ∧ Below w.heap.size w wr) (fun i _ => us.length - (intOf i).toNat)
  case atStart => exact ⟨0, Nat.zero_le _, rfl, rfl, Below.refl _ _⟩
  case round =>
    obtain ⟨k, hk, rfl, hdw, hbw⟩ := hrel
    have HD := (show Hid _ from hdw)
    clear hdw
    by_cases hlt : k < us.length
    · obtain ⟨b, off, rfl, hb, hc⟩ := HC.out (fun e => by rw [e] at hlt; simp at hlt)
      have hc0 : wr.cell? ⟨b, off + k, none⟩ = some (.int .u16 ((us[k]?.getD 0 : Nat) : Int)) := (hbw.cell (p := ⟨b, off + k, none⟩) hb).trans (hc k hlt)
      have hdh := drop_head us k hlt
      have hu0 := HG.out k
      have HH := (show Hid _ from hdh)
      clear hdh hc
      generalize us[k]?.getD 0 = x at *
      have cW := refWhite_any x hu0 wr (RVar_below hZ hbw)
      cases hwx : whiteU x
      · rw [hwx] at cW
        have hL : us.drop k = ltrim us := by
          have := HD.out
          rw [HH.out, List.dropWhile_cons, hwx] at this
          rw [HH.out]
          exact this
        have HL := (show Hid _ from hL)
        clear hL
        go_wp2_with (go_at_call 150; refine cW.mono ?_; rintro e w2 ⟨rfl, hb2⟩)
        have hbw2 := hbw.trans (hb2.mono hbw.size)
        clear hc0 cW
        go_loopw [4] (fun kk w3 => ∃ j : Nat, k ≤ j ∧ j ≤ us.length ∧ kk = .int .i64 j ∧ rtrim ((us.take j).drop k) = trimU us ∧ Below w.heap.size w w3) (fun kk _ => (intOf kk).toNat)
        case atStart => exact ⟨us.length, by omega, Nat.le_refl _, rfl, by rw [List.take_length, HL.out]; rfl, hbw2⟩
        case round =>
          obtain ⟨j, hj1, hj2, rfl, hrt, hbw3⟩ := hrel
          have HR := (show Hid _ from hrt)
          clear hrt
          by_cases hji : k < j
          · obtain ⟨j', rfl⟩ : ∃ j', j = j' + 1 := ⟨j - 1, by omega⟩
            have htl := take_last us k (j' + 1) hji hj2
            rw [show j' + 1 - 1 = j' by omega] at htl
            have HTL := (show Hid _ from htl)
            clear htl
            obtain ⟨b, off, ea, hb, hc⟩ := HC.out (fun e => by rw [e] at hj2; simp at hj2)
            cases ea
            have hc1 : wr.cell? ⟨b, off + j', none⟩ = some (.int .u16 ((us[j']?.getD 0 : Nat) : Int)) := (hbw3.cell (p := ⟨b, off + j', none⟩) hb).trans (hc j' (by omega))
            have hu1 := HG.out j'
            clear hc
            generalize us[j']?.getD 0 = y at *
            have cV := refWhite_any y hu1 wr (RVar_below hZ hbw3)
            cases hwy : whiteU y
            · rw [hwy] at cV
              have hE : (us.take (j' + 1)).drop k = trimU us := by
                have := HR.out
                rw [HTL.out, rtrim_snoc, if_neg (by rw [hwy]; simp)] at this
                rw [HTL.out]
                exact this
              have HE := (show Hid _ from hE)
              clear hE
              go_wp2_with (go_at_call 150; refine cV.mono ?_; rintro e w4 ⟨rfl, hb4⟩)
              have hbw4 := hbw3.trans (hb4.mono hbw3.size)
              go_ret
              refine ⟨_, rfl, ?_, hbw4⟩
              rw [← HE.out]
              exact rowC_cut (hR0.below hbw4) k (j' + 1) (by omega) hj2 (by omega)
            · rw [hwy] at cV
              have hE : rtrim ((us.take j').drop k) = trimU us := by
                have := HR.out
                rw [HTL.out, rtrim_snoc, if_pos hwy] at this
                exact this
              have HE := (show Hid _ from hE)
              clear hE
              go_wp2_with (go_at_call 150; refine cV.mono ?_; rintro e w4 ⟨rfl, hb4⟩)
              have hbw4 := hbw3.trans (hb4.mono hbw3.size)
              go_roundw
              case rel => exact ⟨j', by omega, by omega, by go_num, HE.out, hbw4⟩
              case measure => simp [intOf]
          · obtain rfl : j = k := by omega
            have hE : trimU us = [] := by
              have := HR.out
              rw [List.drop_of_length_le (by simp; omega)] at this
              exact this.symm
            have HE := (show Hid _ from hE)
            clear hE
            go_wp2
            go_ret
            refine ⟨_, rfl, ?_, hbw3⟩
            rw [HE.out]
            exact rowC_none _ _ _ (by unfold maxLen; omega)
      · rw [hwx] at cW
        have hnx : (us.drop (k + 1)).dropWhile whiteU = ltrim us := by
          have := HD.out
          rw [HH.out, List.dropWhile_cons, hwx] at this
          exact this
        have HX := (show Hid _ from hnx)
        clear hnx
        go_wp2_with (go_at_call 150; refine cW.mono ?_; rintro e w2 ⟨rfl, hb2⟩)
        go_roundw
        case rel => exact ⟨k + 1, by omega, by go_num, HX.out, hbw.trans (hb2.mono hbw.size)⟩
        case measure => simp [intOf]; omega
    · obtain rfl : k = us.length := by omega
      have hE : trimU us = [] := by
        have := HD.out
        rw [List.drop_length] at this
        unfold trimU
        rw [← this]
        rfl
      have HE := (show Hid _ from hE)
      clear hE
      go_wp2
      go_loopw [4] (fun kk w3 => kk = .int .i64 (us.length : Nat) ∧ Below w.heap.size w w3) (fun _ _ => 0)
      case atStart => exact ⟨rfl, hbw⟩
      case round =>
        obtain ⟨rfl, hbw3⟩ := hrel
        go_wp2
        all_goals
          go_ret
          refine ⟨_, rfl, ?_, hbw3⟩
          rw [HE.out]
          exact rowC_none _ _ _ (by unfold maxLen; omega)

end Go.Proofs.YtellndmbllmjgaaGreatDoor.Ut
/- How many units a text has, how many bytes a text of units; how many of them are below 128. -/
set_option linter.unusedVariables false
namespace Go.Proofs.YtellndmbllmjgaaGreatDoor.Ut
namespace Un
theorem decodeN_two (n b0 b1 b2 b3 : Nat) (h0 : b0 < 256) (h : 65536 ≤ (Lib.decodeN n b0 b1 b2 b3).1) : 2 ≤ (Lib.decodeN n b0 b1 b2 b3).2 := by
  revert h
  unfold Lib.decodeN
  repeat' split
  all_goals simp only []
  all_goals omega
theorem pointN_two (n b0 b1 b2 b3 : Nat) (h0 : b0 < 256) (h : 65536 ≤ (pointN n b0 b1 b2 b3).1) : 2 ≤ (pointN n b0 b1 b2 b3).2 := by
  revert h
  unfold pointN
  split
  · intro _; simp only []; omega
  · exact decodeN_two n b0 b1 b2 b3 h0
theorem ptL_fits (bs : List Nat) (h : bs ≠ []) (hb : ∀ b ∈ bs, b < 256) : (unR (ptL bs).1).length ≤ (ptL bs).2 := by
  have h1 := (ptL_bounds bs h hb).1
  unfold unR
  split
  · exact h1
  · rename_i hn
    exact pointN_two _ _ _ _ _ (getD_byte hb 0) (by unfold ptL at hn; omega)
theorem unitsL_fits : ∀ (f : Nat) (bs : List Nat), (∀ b ∈ bs, b < 256) → (unitsL f bs).length ≤ bs.length
  | 0, bs, _ => by simp [unitsL]
  | f + 1, bs, hb => by
    unfold unitsL
    split
    · simp
    · rename_i h
      have h1 := ptL_bounds bs h hb
      have h2 := ptL_fits bs h hb
      have h3 := unitsL_fits f (bs.drop (ptL bs).2) (fun b hb' => hb b (List.mem_of_mem_drop hb'))
      rw [List.length_drop] at h3
      rw [List.length_append]
      omega
theorem pts_length : ∀ (l : List Nat), (pts l).length ≤ l.length
  | [] => by simp [pts]
  | [u] => by simp [pts]
  | u :: v :: t => by
    unfold pts
    split
    · have := pts_length t
      simp only [List.length_cons]
      omega
    · have := pts_length (v :: t)
      simp only [List.length_cons] at this ⊢
      omega
theorem flat_length : ∀ (l : List Nat), (l.flatMap encR).length ≤ 4 * l.length
  | [] => by simp
  | r :: l => by
    have h1 := (encR_len r).2
    have h2 := flat_length l
    rw [List.flatMap_cons, List.length_append, List.length_cons]
    omega
/-- How many bytes are below 128. -/
def low (l : List Nat) : Nat := (l.filter (fun c => decide (c < 128))).length
theorem low_append (a b : List Nat) : low (a ++ b) = low a + low b := by unfold low; rw [List.filter_append, List.length_append]
theorem low_le (l : List Nat) : low l ≤ l.length := List.length_filter_le _ _
theorem low_enc (r : Nat) (hr : r ≤ 1114111) : low (encR r) ≤ 1 := by
  unfold encR
  split
  · exact low_le _
  · split
    · unfold low
      rw [List.filter_cons_of_neg (by simp; omega), List.filter_cons_of_neg (by simp)]
      simp
    · split
      · unfold low
        rw [List.filter_cons_of_neg (by simp; omega), List.filter_cons_of_neg (by simp), List.filter_cons_of_neg (by simp)]
        simp
      · unfold low
        rw [List.filter_cons_of_neg (by simp; omega), List.filter_cons_of_neg (by simp), List.filter_cons_of_neg (by simp), List.filter_cons_of_neg (by simp)]
        simp
theorem low_flat : ∀ (l : List Nat), (∀ r ∈ l, r ≤ 1114111) → low (l.flatMap encR) ≤ l.length
  | [], _ => by simp [low]
  | r :: l, h => by
    have h1 := low_enc r (h r (by simp))
    have h2 := low_flat l (fun x hx => h x (by simp [hx]))
    rw [List.flatMap_cons, low_append, List.length_cons]
    omega
theorem low_all (l : List Nat) (h : ∀ c ∈ l, c < 128) : low l = l.length := by
  unfold low
  rw [List.filter_eq_self.2 (fun c hc => by simpa using h c hc)]
/-- Bytes below 128 that stand within a text are no more than all of them. -/
theorem low_part (a l : List Nat) (i : Nat) (h : ∀ c ∈ a, c < 128) (hp : a <+: l.drop i) : a.length ≤ low l := by
  obtain ⟨t, ht⟩ := hp
  have e : l = l.take i ++ (a ++ t) := by rw [ht, List.take_append_drop]
  rw [e, low_append, low_append, low_all a h]
  omega
end Un
end Go.Proofs.YtellndmbllmjgaaGreatDoor.Ut
/- bytesOf; what is known of a text without its white space. -/
set_option linter.unusedVariables false
namespace Go.Proofs.YtellndmbllmjgaaGreatDoor.Ut
open Go.RowKit Go.Shelf Go.Lib

theorem trimU_sub (us : List Nat) : ∀ u ∈ trimU us, u ∈ us := by
  intro u hu
  unfold trimU rtrim ltrim at hu
  have h1 := List.mem_reverse.1 hu
  have h2 := (List.dropWhile_sublist whiteU).subset h1
  exact (List.dropWhile_sublist whiteU).subset (List.mem_reverse.1 h2)
theorem trimU_len (us : List Nat) : (trimU us).length ≤ us.length := by
  unfold trimU rtrim ltrim
  rw [List.length_reverse]
  have h1 := (List.dropWhile_sublist whiteU (l := (us.dropWhile whiteU).reverse)).length_le
  have h2 := (List.dropWhile_sublist whiteU (l := us)).length_le
  rw [List.length_reverse] at h1
  omega
set_option maxRecDepth 100000 in
set_option maxHeartbeats 1000000 in
theorem bytesOf_any (sv : Value) (us : List Nat) (hu : ∀ u ∈ us, u < 65536) (hlen : us.length ≤ 100000) (w : World) (hR : RowC w sv us) (hZ : RVar 3 zsT w) :
    Calls Tryz.prog 44 #[sv] w fun e w' => e = .returned (.string (txt (trimU us))) ∧ Below w.heap.size w w' := by
  have ct := refTrim_any sv us hu (by omega) w hR hZ
  have hut : ∀ u ∈ trimU us, u < 65536 := fun u h => hu u (trimU_sub us u h)
  have hl := trimU_len us
  have CX := (show Hid _ from fun (W : World) (x : Value) (h : RowC W x (trimU us)) => refText_any x (trimU us) hut (by omega) W h.row)
  obtain ⟨a, cap, rfl, _⟩ := hR
  clear hut hu hl
  go_enter Tryz.func44, Tryz.ntmps44
  go_wp2_with (first | (go_at_call 98; refine ct.mono ?_; rintro e w1 ⟨x, rfl, hx, hb1⟩; clear ct; have cx := CX.out w1 x hx; clear CX) | (go_at_call 99; refine cx.mono ?_; rintro e w2 ⟨rfl, hb2⟩; clear cx))
  go_ret
  exact ⟨rfl, hb1.trans (hb2.mono hb1.size)⟩
theorem bytes_txtU (us : List Nat) (hu : ∀ u ∈ us, u < 65536) : bytes (txt us) = txtB us := by
  unfold bytes txt
  have hb : ∀ b ∈ txtB us, b < 256 := by
    intro b hb
    obtain ⟨r, hr, hb⟩ := List.mem_flatMap.1 hb
    exact Un.encR_lt r (Un.pts_lt us hu r hr) b hb
  simp only [List.map_map]
  conv => rhs; rw [← List.map_id (txtB us)]
  refine List.map_congr_left fun b h => ?_
  simp only [Function.comp, UInt8.toNat_ofNat', id]
  exact Nat.mod_eq_of_lt (hb b h)
/-- The text that is read, and what is known of it. -/
def core (s : ByteArray) : ByteArray := txt (trimU (unitsS s))
theorem core_facts (s : ByteArray) (hs : s.size ≤ 4000) : (core s).size ≤ 16000 ∧ Un.low (bytes (core s)) ≤ 4000 := by
  have hu := unitsS_lt s
  have h1 : (unitsS s).length ≤ s.size := by
    have := Un.unitsL_fits s.size (bytes s) (bytes_lt s)
    rwa [bytes_len] at this
  have h2 := trimU_len (unitsS s)
  have hut : ∀ u ∈ trimU (unitsS s), u < 65536 := fun u h => hu u (trimU_sub _ u h)
  have h3 := Un.pts_length (trimU (unitsS s))
  have e := bytes_txtU (trimU (unitsS s)) hut
  have hr : ∀ r ∈ Un.pts (trimU (unitsS s)), r ≤ 1114111 := Un.pts_lt _ hut
  constructor
  · rw [← bytes_len, core, e]
    have := Un.flat_length (Un.pts (trimU (unitsS s)))
    unfold txtB
    omega
  · rw [core, e]
    have := Un.low_flat (Un.pts (trimU (unitsS s))) hr
    unfold txtB
    omega
end Go.Proofs.YtellndmbllmjgaaGreatDoor.Ut
