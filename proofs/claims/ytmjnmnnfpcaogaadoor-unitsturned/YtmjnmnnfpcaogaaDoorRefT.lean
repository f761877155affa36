/- The walk of the document's own Text. -/
import Derived.Test.YtmjnmnnfpcaogaaDoorRefU
set_option linter.unusedVariables false
namespace Go.Proofs.YtmjnmnnfpcaogaaDoor
open Go.RowKit Go.Shelf

set_option maxHeartbeats 1000000 in
theorem first_any (u : Nat) (w : World) :
    Calls Tryd.prog 20 #[.int .u16 (u : Int)] w fun e w' => e = .returned (.bool (Un.isF u)) ∧ w' = w := by
  unfold Un.isF
  by_cases h1 : (55296 : Int) ≤ u
  · by_cases h2 : (u : Int) < 56320
    all_goals
      go_enter Tryd.func20, Tryd.ntmps20
      go_wp2
      go_ret
      exact ⟨by simp; omega, rfl⟩
  · go_enter Tryd.func20, Tryd.ntmps20
    go_wp2
    go_ret
    exact ⟨by simp; omega, rfl⟩
set_option maxHeartbeats 1000000 in
theorem second_any (u : Nat) (w : World) :
    Calls Tryd.prog 21 #[.int .u16 (u : Int)] w fun e w' => e = .returned (.bool (Un.isS u)) ∧ w' = w := by
  unfold Un.isS
  by_cases h1 : (56320 : Int) ≤ u
  · by_cases h2 : (u : Int) < 57344
    all_goals
      go_enter Tryd.func21, Tryd.ntmps21
      go_wp2
      go_ret
      exact ⟨by simp; omega, rfl⟩
  · go_enter Tryd.func21, Tryd.ntmps21
    go_wp2
    go_ret
    exact ⟨by simp; omega, rfl⟩

theorem conv_nil (W : World) : (convert 35 9 (.slice none 0 0)).run Tryd.prog W = .ok (.string ⟨#[]⟩) W := by kernel_rfl

theorem appHalf {W : World} {base : Nat} {v : Value} {bs : List Nat} {u : Nat} (h1 : 55296 ≤ u) (h2 : u < 57344) (h : W.ownsRow base 5 1 v (bs.length + 3) (bs.map bv ++ [.int .u8 237, .int .u8 (128 + (u : Int) / 64 % 64), .int .u8 (128 + (u : Int) % 64)])) :
    W.ownsRow base 5 1 v (bs ++ Un.encR u).length ((bs ++ Un.encR u).map bv) := by
  have e : Un.encR u = [237, 128 + u / 64 % 64, 128 + u % 64] := by
    unfold Un.encR
    rw [if_neg (by omega), if_neg (by omega), if_pos (by omega)]
    have : 224 + u / 4096 = 237 := by omega
    rw [this]
  rw [e, List.length_append, List.map_append]
  exact h

set_option maxRecDepth 100000 in
set_option maxHeartbeats 8000000 in
theorem refText_any (sv : Value) (us : List Nat) (hu : ∀ u ∈ us, u < 65536) (hlen : us.length ≤ 200000) (w : World) (hL : Row16 w.heap.size w sv us) :
    Calls Tryd.prog 9 #[sv] w fun e W' => e = .returned (.string (txt us)) ∧ Below w.heap.size w W' := by
  obtain ⟨i0, hi, hz0, hz1, hz2⟩ := info_parts info5
  have hbt : ∀ b ∈ txtB us, b < 256 := by
    intro b hb
    obtain ⟨r, hr, hb⟩ := List.mem_flatMap.1 hb
    exact Un.encR_lt r (Un.pts_lt us hu r hr) b hb
  have HB := (show Hid _ from hbt)
  have hgd := getD_lt hu
  have HG := (show Hid _ from hgd)
  clear hbt hgd hu
  obtain ⟨sa, sc, rfl⟩ := hL.slice
  go_enter Tryd.func9, Tryd.ntmps9
  go_wp2
  go_loopw [3, 4] (fun l i wr => ∃ (k : Nat) (bs : List Nat), k ≤ us.length ∧ bs.length ≤ 4 * k ∧ i = .int .i64 k ∧ wr.ownsRow w.heap.size 5 1 l bs.length (bs.map bv) ∧ bs ++ (Un.pts (us.drop k)).flatMap Un.encR = txtB us ∧ Below w.heap.size w wr)
    (fun _ i _ => us.length - (intOf i).toNat)
  case atStart => exact ⟨0, [], Nat.zero_le _, Nat.le_refl _, rfl, World.ownsRow_nil _ _ _ _, rfl, Below.refl _ _⟩
  case round =>
    obtain ⟨k, bs, hk, hbl, rfl, hrow, hsum, hbw⟩ := hrel
    have HS : Hid (bs ++ (Un.pts (us.drop k)).flatMap Un.encR = txtB us) := hsum
    clear hsum
    by_cases hlt : k < us.length
    · rcases hL with ⟨_, hun⟩ | ⟨b, off, cap, e, hb, hc⟩
      · rw [hun] at hlt; simp at hlt
      cases e
      have hcx : ∀ j, j < us.length → wr.cell? ⟨b, off + j, none⟩ = some (.int .u16 ((us[j]?.getD 0 : Nat) : Int)) := fun j h => (hbw.cell (p := ⟨b, off + j, none⟩) hb).trans (hc j h)
      have hc0 := hcx k hlt
      have hu0 := HG.out k
      have hu1 := HG.out (k + 1)
      have q3 : bs.length + 3 ≤ maxLen := by unfold maxLen; omega
      by_cases hpair : k + 1 < us.length ∧ (Un.isF (us[k]?.getD 0) && Un.isS (us[k + 1]?.getD 0)) = true
      · obtain ⟨h2, hfs⟩ := hpair
        have hc1 := hcx (k + 1) h2
        have hstep := pts_drop_pair us k h2 hfs
        have hfs' := hfs
        rw [Bool.and_eq_true] at hfs
        obtain ⟨bf, bs2⟩ := hfs
        simp only [Un.isF, Un.isS, Bool.and_eq_true, decide_eq_true_eq] at hfs'
        clear hcx hc
        generalize us[k]?.getD 0 = u at *
        generalize us[k + 1]?.getD 0 = v at *
        obtain ⟨⟨f1, f2⟩, s1, s2⟩ := hfs'
        obtain ⟨x, HX⟩ : ∃ x : Pt, Hid (x.val = 65536 + (u - 55296) * 1024 + v - 56320) := ⟨⟨_, by omega⟩, rfl⟩
        have HT : Hid (Un.pts (us.drop k) = x.val :: Un.pts (us.drop (k + 2))) := hstep.trans (by rw [HX.out])
        clear hstep
        have hel := Un.encR_len x.val
        have cA := fun W (h1 : W.ownsRow w.heap.size 5 1 u3 bs.length (bs.map bv)) (h2 : w.heap.size ≤ W.heap.size) => appendRune_any w.heap.size u3 bs.length (bs.map bv) x.val x.2 (by rw [HX.out]; omega) W h1 (by omega) h2
        rw [show ((x.val : Nat) : Int) = 65536 + ((u : Int) - 55296) * 1024 + (v : Int) - 56320 by rw [HX.out]; omega] at cA
        have CA := (show Hid _ from cA)
        clear cA
        go_wp2_with (first
          | (go_at_call 20; refine (first_any u _).mono ?_; rintro e w' ⟨rfl, rfl⟩)
          | (go_at_call_of 21 (Value.int .u16 (u : Int)); refine (second_any u _).mono ?_; rintro e w' ⟨rfl, rfl⟩)
          | (go_at_call_of 21 (Value.int .u16 (v : Int)); refine (second_any v _).mono ?_; rintro e w' ⟨rfl, rfl⟩)
          | (go_at_call 22; refine (CA.out _ hrow hbw.size).mono ?_; rintro e w3 ⟨v', rfl, hown', o, hgrow⟩))
        have hb3 : Below w.heap.size w w3 := (hbw.alloc hbw.size o).grown hgrow (by have := hbw.size; simp; omega) (fun j e => (hrow.lt j e).1)
        go_roundw
        case rel => exact ⟨k + 2, bs ++ Un.encR x.val, by omega, by simp; omega, by go_num, by simpa using hown', by rw [← HS.out, HT.out, List.flatMap_cons, List.append_assoc], hb3⟩
        case measure => simp [intOf]; omega
      · have hstep := pts_drop_one us k hlt (fun h => by
          by_cases hh : (Un.isF (us[k]?.getD 0) && Un.isS (us[k + 1]?.getD 0)) = true
          · exact absurd ⟨h, hh⟩ hpair
          · simpa using hh)
        have h3 : (k + 1 < us.length ∧ Un.isF (us[k]?.getD 0) = true ∧ Un.isS (us[k + 1]?.getD 0) = false) ∨ (k + 1 < us.length ∧ Un.isF (us[k]?.getD 0) = false ∧ Un.isS (us[k]?.getD 0) = true) ∨ (k + 1 < us.length ∧ Un.isF (us[k]?.getD 0) = false ∧ Un.isS (us[k]?.getD 0) = false) ∨ (¬ (k + 1 < us.length) ∧ Un.isF (us[k]?.getD 0) = true) ∨ (¬ (k + 1 < us.length) ∧ Un.isF (us[k]?.getD 0) = false ∧ Un.isS (us[k]?.getD 0) = true) ∨ (¬ (k + 1 < us.length) ∧ Un.isF (us[k]?.getD 0) = false ∧ Un.isS (us[k]?.getD 0) = false) := by
          by_cases h : k + 1 < us.length
          · cases e1 : Un.isF (us[k]?.getD 0)
            · cases e2 : Un.isS (us[k]?.getD 0)
              · exact .inr (.inr (.inl ⟨h, rfl, rfl⟩))
              · exact .inr (.inl ⟨h, rfl, rfl⟩)
            · refine .inl ⟨h, rfl, ?_⟩
              cases e2 : Un.isS (us[k + 1]?.getD 0)
              · rfl
              · exact absurd ⟨h, by rw [e1, e2]; rfl⟩ hpair
          · cases e1 : Un.isF (us[k]?.getD 0)
            · cases e2 : Un.isS (us[k]?.getD 0)
              · exact .inr (.inr (.inr (.inr (.inr ⟨h, rfl, rfl⟩))))
              · exact .inr (.inr (.inr (.inr (.inl ⟨h, rfl, rfl⟩))))
            · exact .inr (.inr (.inr (.inl ⟨h, rfl⟩)))
        have hc1 := hcx (k + 1)
        clear hcx hc hpair
        generalize us[k]?.getD 0 = u at *
        generalize us[k + 1]?.getD 0 = v at *
        have HT : Hid (Un.pts (us.drop k) = u :: Un.pts (us.drop (k + 1))) := hstep
        clear hstep
        have hel := Un.encR_len u
        have cA := fun W (h0 : ¬ (55296 ≤ u ∧ u < 57344)) (h1 : W.ownsRow w.heap.size 5 1 u3 bs.length (bs.map bv)) (h2 : w.heap.size ≤ W.heap.size) => appendRune_any w.heap.size u3 bs.length (bs.map bv) u (by omega) h0 W h1 (by omega) h2
        have CA := (show Hid _ from cA)
        clear cA
        rcases h3 with ⟨h2, bf, bg⟩ | ⟨h2, bf, bg⟩ | ⟨h2, bf, bg⟩ | ⟨h2, bf⟩ | ⟨h2, bf, bg⟩ | ⟨h2, bf, bg⟩
        · replace hc1 := hc1 h2
          have f1 : 55296 ≤ u := by simp [Un.isF] at bf; omega
          have f2 : u < 57344 := by simp [Un.isF] at bf; omega
          go_wp2_with (first
            | (go_at_call 20; refine (first_any u _).mono ?_; rintro e w' ⟨rfl, rfl⟩)
            | (go_at_call_of 21 (Value.int .u16 (u : Int)); refine (second_any u _).mono ?_; rintro e w' ⟨rfl, rfl⟩)
            | (go_at_call_of 21 (Value.int .u16 (v : Int)); refine (second_any v _).mono ?_; rintro e w' ⟨rfl, rfl⟩)
            | (at_builtin; refine wpList_append_own _ rfl _ _ 35 rfl w.heap.size 5 i0 (.int .u8 0) 1 1 Tryd.underlying35 hi hz0 hz1 hz2 rfl (by decide) _ _ _ rfl (hrow.alloc _) ⟨_, 0, none⟩ 3 3 [.int .u8 237, .int .u8 (128 + (u : Int) / 64 % 64), .int .u8 (128 + (u : Int) % 64)] rfl rfl (cells_new _ [.int .u8 237, .int .u8 (128 + (u : Int) / 64 % 64), .int .u8 (128 + (u : Int) % 64)] 5) (one_ints .u8 [237, 128 + (u : Int) / 64 % 64, 128 + (u : Int) % 64]) q3 (by omega) (by have := hbw.size; simp; omega) ?_; intro v' w3 hown' hgrow hnil'))
          have hb3 : Below w.heap.size w w3 := (hbw.alloc hbw.size _).grown hgrow (by have := hbw.size; simp; omega) (fun j e => (hrow.lt j e).1)
          go_roundw
          case rel => exact ⟨k + 1, bs ++ Un.encR u, by omega, by simp; omega, by go_num, appHalf f1 f2 hown', by rw [← HS.out, HT.out, List.flatMap_cons, List.append_assoc], hb3⟩
          case measure => simp [intOf]; omega
        · replace hc1 := hc1 h2
          have f1 : 55296 ≤ u := by simp [Un.isS] at bg; omega
          have f2 : u < 57344 := by simp [Un.isS] at bg; omega
          go_wp2_with (first
            | (go_at_call 20; refine (first_any u _).mono ?_; rintro e w' ⟨rfl, rfl⟩)
            | (go_at_call_of 21 (Value.int .u16 (u : Int)); refine (second_any u _).mono ?_; rintro e w' ⟨rfl, rfl⟩)
            | (go_at_call_of 21 (Value.int .u16 (v : Int)); refine (second_any v _).mono ?_; rintro e w' ⟨rfl, rfl⟩)
            | (at_builtin; refine wpList_append_own _ rfl _ _ 35 rfl w.heap.size 5 i0 (.int .u8 0) 1 1 Tryd.underlying35 hi hz0 hz1 hz2 rfl (by decide) _ _ _ rfl (hrow.alloc _) ⟨_, 0, none⟩ 3 3 [.int .u8 237, .int .u8 (128 + (u : Int) / 64 % 64), .int .u8 (128 + (u : Int) % 64)] rfl rfl (cells_new _ [.int .u8 237, .int .u8 (128 + (u : Int) / 64 % 64), .int .u8 (128 + (u : Int) % 64)] 5) (one_ints .u8 [237, 128 + (u : Int) / 64 % 64, 128 + (u : Int) % 64]) q3 (by omega) (by have := hbw.size; simp; omega) ?_; intro v' w3 hown' hgrow hnil'))
          have hb3 : Below w.heap.size w w3 := (hbw.alloc hbw.size _).grown hgrow (by have := hbw.size; simp; omega) (fun j e => (hrow.lt j e).1)
          go_roundw
          case rel => exact ⟨k + 1, bs ++ Un.encR u, by omega, by simp; omega, by go_num, appHalf f1 f2 hown', by rw [← HS.out, HT.out, List.flatMap_cons, List.append_assoc], hb3⟩
          case measure => simp [intOf]; omega
        · replace hc1 := hc1 h2
          have hnh : ¬ (55296 ≤ u ∧ u < 57344) := by simp [Un.isF] at bf; simp [Un.isS] at bg; omega
          go_wp2_with (first
            | (go_at_call 20; refine (first_any u _).mono ?_; rintro e w' ⟨rfl, rfl⟩)
            | (go_at_call_of 21 (Value.int .u16 (u : Int)); refine (second_any u _).mono ?_; rintro e w' ⟨rfl, rfl⟩)
            | (go_at_call_of 21 (Value.int .u16 (v : Int)); refine (second_any v _).mono ?_; rintro e w' ⟨rfl, rfl⟩)
            | (go_at_call 22; refine (CA.out _ hnh hrow hbw.size).mono ?_; rintro e w3 ⟨v', rfl, hown', o, hgrow⟩))
          have hb3 : Below w.heap.size w w3 := (hbw.alloc hbw.size o).grown hgrow (by have := hbw.size; simp; omega) (fun j e => (hrow.lt j e).1)
          go_roundw
          case rel => exact ⟨k + 1, bs ++ Un.encR u, by omega, by simp; omega, by go_num, by simpa using hown', by rw [← HS.out, HT.out, List.flatMap_cons, List.append_assoc], hb3⟩
          case measure => simp [intOf]; omega
        · clear hc1
          have f1 : 55296 ≤ u := by simp [Un.isF] at bf; omega
          have f2 : u < 57344 := by simp [Un.isF] at bf; omega
          go_wp2_with (first
            | (go_at_call 20; refine (first_any u _).mono ?_; rintro e w' ⟨rfl, rfl⟩)
            | (go_at_call_of 21 (Value.int .u16 (u : Int)); refine (second_any u _).mono ?_; rintro e w' ⟨rfl, rfl⟩)
            | (at_builtin; refine wpList_append_own _ rfl _ _ 35 rfl w.heap.size 5 i0 (.int .u8 0) 1 1 Tryd.underlying35 hi hz0 hz1 hz2 rfl (by decide) _ _ _ rfl (hrow.alloc _) ⟨_, 0, none⟩ 3 3 [.int .u8 237, .int .u8 (128 + (u : Int) / 64 % 64), .int .u8 (128 + (u : Int) % 64)] rfl rfl (cells_new _ [.int .u8 237, .int .u8 (128 + (u : Int) / 64 % 64), .int .u8 (128 + (u : Int) % 64)] 5) (one_ints .u8 [237, 128 + (u : Int) / 64 % 64, 128 + (u : Int) % 64]) q3 (by omega) (by have := hbw.size; simp; omega) ?_; intro v' w3 hown' hgrow hnil'))
          have hb3 : Below w.heap.size w w3 := (hbw.alloc hbw.size _).grown hgrow (by have := hbw.size; simp; omega) (fun j e => (hrow.lt j e).1)
          go_roundw
          case rel => exact ⟨k + 1, bs ++ Un.encR u, by omega, by simp; omega, by go_num, appHalf f1 f2 hown', by rw [← HS.out, HT.out, List.flatMap_cons, List.append_assoc], hb3⟩
          case measure => simp [intOf]; omega
        · clear hc1
          have f1 : 55296 ≤ u := by simp [Un.isS] at bg; omega
          have f2 : u < 57344 := by simp [Un.isS] at bg; omega
          go_wp2_with (first
            | (go_at_call 20; refine (first_any u _).mono ?_; rintro e w' ⟨rfl, rfl⟩)
            | (go_at_call_of 21 (Value.int .u16 (u : Int)); refine (second_any u _).mono ?_; rintro e w' ⟨rfl, rfl⟩)
            | (at_builtin; refine wpList_append_own _ rfl _ _ 35 rfl w.heap.size 5 i0 (.int .u8 0) 1 1 Tryd.underlying35 hi hz0 hz1 hz2 rfl (by decide) _ _ _ rfl (hrow.alloc _) ⟨_, 0, none⟩ 3 3 [.int .u8 237, .int .u8 (128 + (u : Int) / 64 % 64), .int .u8 (128 + (u : Int) % 64)] rfl rfl (cells_new _ [.int .u8 237, .int .u8 (128 + (u : Int) / 64 % 64), .int .u8 (128 + (u : Int) % 64)] 5) (one_ints .u8 [237, 128 + (u : Int) / 64 % 64, 128 + (u : Int) % 64]) q3 (by omega) (by have := hbw.size; simp; omega) ?_; intro v' w3 hown' hgrow hnil'))
          have hb3 : Below w.heap.size w w3 := (hbw.alloc hbw.size _).grown hgrow (by have := hbw.size; simp; omega) (fun j e => (hrow.lt j e).1)
          go_roundw
          case rel => exact ⟨k + 1, bs ++ Un.encR u, by omega, by simp; omega, by go_num, appHalf f1 f2 hown', by rw [← HS.out, HT.out, List.flatMap_cons, List.append_assoc], hb3⟩
          case measure => simp [intOf]; omega
        · clear hc1
          have hnh : ¬ (55296 ≤ u ∧ u < 57344) := by simp [Un.isF] at bf; simp [Un.isS] at bg; omega
          go_wp2_with (first
            | (go_at_call 20; refine (first_any u _).mono ?_; rintro e w' ⟨rfl, rfl⟩)
            | (go_at_call_of 21 (Value.int .u16 (u : Int)); refine (second_any u _).mono ?_; rintro e w' ⟨rfl, rfl⟩)
            | (go_at_call 22; refine (CA.out _ hnh hrow hbw.size).mono ?_; rintro e w3 ⟨v', rfl, hown', o, hgrow⟩))
          have hb3 : Below w.heap.size w w3 := (hbw.alloc hbw.size o).grown hgrow (by have := hbw.size; simp; omega) (fun j e => (hrow.lt j e).1)
          go_roundw
          case rel => exact ⟨k + 1, bs ++ Un.encR u, by omega, by simp; omega, by go_num, by simpa using hown', by rw [← HS.out, HT.out, List.flatMap_cons, List.append_assoc], hb3⟩
          case measure => simp [intOf]; omega
    · obtain rfl : k = us.length := by omega
      have hfin : bs = txtB us := by
        have := HS.out
        rw [List.drop_length] at this
        simpa [Un.pts] using this
      have hcv : (convert 35 9 u3).run Tryd.prog wr = .ok (.string (txt us)) wr := by
        subst hfin
        rcases hrow.2 with ⟨rfl, h0⟩ | ⟨g, cap, _, rfl, _⟩
        · have : txtB us = [] := List.eq_nil_of_length_eq_zero h0
          unfold txt
          rw [this]
          exact conv_nil wr
        · exact conv_row HB.out hrow
      clear hfin
      go_wp2
      go_ret
      exact ⟨rfl, hbw⟩
end Go.Proofs.YtmjnmnnfpcaogaaDoor
