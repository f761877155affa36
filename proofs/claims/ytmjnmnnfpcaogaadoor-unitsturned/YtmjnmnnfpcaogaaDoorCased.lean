/- The walk of the document's own Cased. -/
import Derived.Test.YtmjnmnnfpcaogaaDoorRefT
import Derived.Test.YtmjnmnnfpcaogaaDoorBack
import Derived.Test.YtmjnmnnfpcaogaaDoorCase
import Derived.Test.YtmjnmnnfpcaogaaDoorShelf2
import Derived.Shelf.Strings.CaseAny
set_option linter.unusedVariables false
namespace Go.Proofs.YtmjnmnnfpcaogaaDoor
open Go.RowKit Go.Shelf Go.Lib

theorem bytes_encode (r : Nat) (hr : r ≤ 1114111) (hh : ¬ (55296 ≤ r ∧ r < 57344)) : bytes (Utf8.encode (r : Int)) = Un.encR r := by
  have hv : Utf8.valid (r : Int) = true := by
    unfold Utf8.valid
    simp
    omega
  unfold Utf8.encode
  simp only [hv, if_true, Int.toNat_natCast]
  unfold Un.encR
  by_cases h1 : r < 128
  · rw [if_pos h1, if_pos h1]
    simp [bytes, UInt8.toNat_ofNat', Nat.mod_eq_of_lt (show r < 256 by omega)]
  rw [if_neg h1, if_neg h1]
  by_cases h2 : r < 2048
  · rw [if_pos h2, if_pos h2]
    simp [bytes, UInt8.toNat_ofNat']
    omega
  rw [if_neg h2, if_neg h2]
  by_cases h3 : r < 65536
  · rw [if_pos h3, if_pos h3]
    simp [bytes, UInt8.toNat_ofNat']
    omega
  rw [if_neg h3, if_neg h3]
  simp [bytes, UInt8.toNat_ofNat']
  omega
theorem unitsS_encode (r : Nat) (hr : r ≤ 1114111) (hh : ¬ (55296 ≤ r ∧ r < 57344)) : unitsS (Utf8.encode (r : Int)) = Un.unR r := by
  unfold unitsS
  rw [← bytes_len, bytes_encode r hr hh]
  have := Un.unitsL_flat [r] (Un.encR r).length (by simpa using hr) (by simp)
  simpa using this
theorem encode_size (r : Nat) (hr : r ≤ 1114111) (hh : ¬ (55296 ≤ r ∧ r < 57344)) : (Utf8.encode (r : Int)).size ≤ 4 := by
  rw [← bytes_len, bytes_encode r hr hh]
  exact (Un.encR_len r).2
theorem one_uv (l : List Nat) : ∀ u ∈ l.map uv, u.oneCell' = true := by
  intro u hu
  obtain ⟨x, _, rfl⟩ := List.mem_map.1 hu
  rfl
/-- The units of code points, each mapped. -/
def mapU (g : Nat → Nat) (rs : List Nat) : List Nat := (rs.map g).flatMap Un.unR
theorem mapU_cons (g : Nat → Nat) (r : Nat) (rs : List Nat) : mapU g (r :: rs) = Un.unR (g r) ++ mapU g rs := by simp [mapU]

set_option maxRecDepth 100000 in
set_option maxHeartbeats 8000000 in
theorem casedUp_any (sv : Value) (us : List Nat) (hu : ∀ u ∈ us, u < 65536) (hlen : us.length ≤ 200000) (w : World) (hL : Row16 w.heap.size w sv us) (hT : Lib.Utf8Tabs 1 2 w) (hV : CaseVar 3 caseA w) :
    Calls Tryd.prog 10 #[sv, .bool true] w fun e w' => ∃ v, e = .returned v ∧ w'.ownsRow w.heap.size 24 1 v (mapU Un.upN (Un.pts us)).length ((mapU Un.upN (Un.pts us)).map uv) ∧ Below w.heap.size w w' := by
  obtain ⟨i0, hi, hz0, hz1, hz2⟩ := info_parts info24
  have hgd := getD_lt hu
  have HG := (show Hid _ from hgd)
  clear hgd hu
  obtain ⟨sa, sc, rfl⟩ := hL.slice
  go_enter Tryd.func10, Tryd.ntmps10
  go_wp2
  go_loopw [5, 6] (fun l i wr => ∃ (k : Nat) (done : List Nat), k ≤ us.length ∧ done.length ≤ 2 * k ∧ i = .int .i64 k ∧ wr.ownsRow w.heap.size 24 1 l done.length (done.map uv) ∧ done ++ mapU Un.upN (Un.pts (us.drop k)) = mapU Un.upN (Un.pts us) ∧ Below w.heap.size w wr)
    (fun _ i _ => us.length - (intOf i).toNat)
  case atStart => exact ⟨0, [], Nat.zero_le _, Nat.le_refl _, rfl, World.ownsRow_nil _ _ _ _, rfl, Below.refl _ _⟩
  case round =>
    obtain ⟨k, done, hk, hdl, rfl, hrow, hsum, hbw⟩ := hrel
    have HS := (show Hid _ from hsum)
    clear hsum
    by_cases hlt : k < us.length
    · rcases hL with ⟨_, hun⟩ | ⟨b, off, cap, e, hb, hc⟩
      · rw [hun] at hlt; simp at hlt
      cases e
      have hcx : ∀ j, j < us.length → wr.cell? ⟨b, off + j, none⟩ = some (.int .u16 ((us[j]?.getD 0 : Nat) : Int)) := fun j h => (hbw.cell (p := ⟨b, off + j, none⟩) hb).trans (hc j h)
      have hc0 := hcx k hlt
      have hu0 := HG.out k
      have hu1 := HG.out (k + 1)
      have q3 : done.length + 1 ≤ maxLen := by unfold maxLen; omega
      by_cases hpair : k + 1 < us.length ∧ (Un.isF (us[k]?.getD 0) && Un.isS (us[k + 1]?.getD 0)) = true
      · obtain ⟨h2, hfs⟩ := hpair
        have hc1 := hcx (k + 1) h2
        have hstep := pts_drop_pair us k h2 hfs
        have hfs' := hfs
        rw [Bool.and_eq_true] at hfs
        obtain ⟨bf, bs2⟩ := hfs
        simp only [Un.isF, Un.isS, Bool.and_eq_true, decide_eq_true_eq] at hfs'
        clear hcx hc
        generalize us[k]?.getD 0 = u at *
        generalize us[k + 1]?.getD 0 = v at *
        obtain ⟨⟨f1, f2⟩, s1, s2⟩ := hfs'
        obtain ⟨x, HX⟩ : ∃ x : Pt, Hid (x.val = 65536 + (u - 55296) * 1024 + v - 56320) := ⟨⟨_, by omega⟩, rfl⟩
        have HT : Hid (Un.pts (us.drop k) = x.val :: Un.pts (us.drop (k + 2))) := hstep.trans (by rw [HX.out])
        clear hstep
        have hnh : ¬ (55296 ≤ x.val ∧ x.val < 57344) := by rw [HX.out]; omega
        have cC := fun W (h : Below w.heap.size w W) => Tryd.unicode_ToUpper_laid ((x.val : Nat) : Int) W (CaseVar_below hV h)
        rw [Un.maps_up.eq x.val x.2] at cC
        rw [show ((x.val : Nat) : Int) = 65536 + ((u : Int) - 55296) * 1024 + (v : Int) - 56320 by rw [HX.out]; omega] at cC
        have KC := (show Hid _ from cC)
        have hyl := Un.maps_up.le x.val x.2
        have hyn := Un.maps_up.none x.val x.2 hnh
        have hyu := unitsS_encode _ hyl hyn
        have hys := encode_size _ hyl hyn
        have cR := fun W (h : Below w.heap.size w W) => refUnits_any (Utf8.encode ((Un.upN x.val : Nat) : Int)) (by omega) W (tabs_below hT h)
        rw [hyu] at cR
        have KR := (show Hid _ from cR)
        have hyl2 := Un.unR_len (Un.upN x.val)
        obtain ⟨y, hy⟩ : ∃ y, Un.upN x.val = y := ⟨_, rfl⟩
        rw [hy] at KC KR hyl2
        have HY := (show Hid _ from hy)
        clear cC cR hy hyl hyn hyu hys hnh
        go_wp2_with (first
          | (go_at_call 20; refine (first_any u _).mono ?_; rintro e w' ⟨rfl, rfl⟩)
          | (go_at_call 21; refine (second_any v _).mono ?_; rintro e w' ⟨rfl, rfl⟩))
        go_quiet (fail)
        go_wp2_with (first
          | (go_at_call 23; refine (KC.out _ (by first | exact hbw | exact ⟨hbw.os, hbw.tape, hbw.output, hbw.size, hbw.block⟩)).mono ?_; rintro e w4 ⟨rfl, q, rfl⟩)
          | (go_at_call 6; refine (KR.out _ (by first | exact hbw | exact ⟨hbw.os, hbw.tape, hbw.output, hbw.size, hbw.block⟩)).mono ?_; rintro e w5 ⟨v5, rfl, hownR, hnilR, hbR⟩; obtain ⟨g5, cap5, rfl⟩ := ownsRow_pos (by omega) hownR; have hrowR := ownsRow_later (w' := w5) (by exact hrow) hbR; have hbw5 : Below w.heap.size w w5 := Below.trans (by exact ⟨hbw.os, hbw.tape, hbw.output, hbw.size, hbw.block⟩) (hbR.mono (by exact hbw.size)); clear hnilR)
          | (at_builtin; refine wpList_append_own _ rfl _ _ 22 rfl w.heap.size 24 i0 (.int .u16 0) 1 2 Tryd.underlying22 hi hz0 hz1 hz2 rfl (by decide) _ _ _ rfl hrowR ⟨g5, 0, none⟩ (Un.unR y).length cap5 ((Un.unR y).map uv) rfl (by simp) (hownR.cells (g := g5) rfl) (one_uv (Un.unR y)) (by unfold maxLen; omega) (by omega) hbw5.size ?_; intro v6 w6 hown6 hgrow6 hnil6))
        have hb6 : Below w.heap.size w w6 := hbw5.grown hgrow6 hbw5.size (fun j e => (hrowR.lt j e).1)
        go_roundw
        case rel => exact ⟨k + 2, done ++ Un.unR y, by omega, by simp; omega, by go_num, by simpa using hown6, by rw [← HS.out, HT.out, mapU_cons, HY.out, List.append_assoc], hb6⟩
        case measure => simp [intOf]; omega
      · have hstep := pts_drop_one us k hlt (fun h => by
          by_cases hh : (Un.isF (us[k]?.getD 0) && Un.isS (us[k + 1]?.getD 0)) = true
          · exact absurd ⟨h, hh⟩ hpair
          · simpa using hh)
        have hc1 := hcx (k + 1)
        have h3 : ¬ (k + 1 < us.length) ∨ (k + 1 < us.length ∧ Un.isF (us[k]?.getD 0) = false) ∨ (k + 1 < us.length ∧ Un.isF (us[k]?.getD 0) = true ∧ Un.isS (us[k + 1]?.getD 0) = false) := by
          by_cases h : k + 1 < us.length
          · cases e1 : Un.isF (us[k]?.getD 0)
            · exact .inr (.inl ⟨h, rfl⟩)
            · refine .inr (.inr ⟨h, rfl, ?_⟩)
              cases e2 : Un.isS (us[k + 1]?.getD 0)
              · rfl
              · exact absurd ⟨h, by rw [e1, e2]; rfl⟩ hpair
          · exact .inl h
        clear hcx hc hpair
        generalize us[k]?.getD 0 = u at *
        generalize us[k + 1]?.getD 0 = v at *
        have HT : Hid (Un.pts (us.drop k) = u :: Un.pts (us.drop (k + 1))) := hstep
        clear hstep
        by_cases hh : 55296 ≤ u ∧ u < 57344
        · have hy := Un.maps_up.keep u (by omega) hh
          have hur : Un.unR u = [u] := by unfold Un.unR; rw [if_pos (by omega)]
          have HY := (show Hid _ from hy)
          have HU := (show Hid _ from hur)
          clear hy hur
          have cF := fun W => first_any u W
          obtain ⟨z, hz⟩ : ∃ z : Int, (u : Int) = z := ⟨_, rfl⟩
          rw [hz] at hc0 cF
          have g1 : (55296 : Int) ≤ z := by omega
          have g2 : z < 57344 := by omega
          have HZ := (show Hid _ from hz)
          have KF := (show Hid _ from cF)
          clear hh hu0 hu1 hz cF
          rcases h3 with h2 | ⟨h2, bf⟩ | ⟨h2, bf, bg⟩
          · clear hc1
            go_wp2_with (first
              | (go_at_call 20; refine (KF.out _).mono ?_; rintro e w' ⟨rfl, rfl⟩)
              | (go_at_call 21; refine (second_any v _).mono ?_; rintro e w' ⟨rfl, rfl⟩)
              | (at_builtin; refine wpList_append_own _ rfl _ _ 22 rfl w.heap.size 24 i0 (.int .u16 0) 1 2 Tryd.underlying22 hi hz0 hz1 hz2 rfl (by decide) _ _ _ rfl (hrow.alloc _) ⟨_, 0, none⟩ 1 1 [.int .u16 z] rfl rfl (cells_new _ [.int .u16 z] 24) (one_ints .u16 [z]) q3 (by omega) (by have := hbw.size; simp; omega) ?_; intro v6 w6 hown6 hgrow6 hnil6))
            have hb6 : Below w.heap.size w w6 := (hbw.alloc hbw.size _).grown hgrow6 (by have := hbw.size; simp; omega) (fun j e => (hrow.lt j e).1)
            go_roundw
            case rel => exact ⟨k + 1, done ++ [u], by omega, by simp; omega, by go_num, by simpa [uv, HZ.out] using hown6, by rw [← HS.out, HT.out, mapU_cons, HY.out, HU.out, List.append_assoc], hb6⟩
            case measure => simp [intOf]; omega
          · replace hc1 := hc1 h2
            go_wp2_with (first
              | (go_at_call 20; refine (KF.out _).mono ?_; rintro e w' ⟨rfl, rfl⟩)
              | (go_at_call 21; refine (second_any v _).mono ?_; rintro e w' ⟨rfl, rfl⟩)
              | (at_builtin; refine wpList_append_own _ rfl _ _ 22 rfl w.heap.size 24 i0 (.int .u16 0) 1 2 Tryd.underlying22 hi hz0 hz1 hz2 rfl (by decide) _ _ _ rfl (hrow.alloc _) ⟨_, 0, none⟩ 1 1 [.int .u16 z] rfl rfl (cells_new _ [.int .u16 z] 24) (one_ints .u16 [z]) q3 (by omega) (by have := hbw.size; simp; omega) ?_; intro v6 w6 hown6 hgrow6 hnil6))
            have hb6 : Below w.heap.size w w6 := (hbw.alloc hbw.size _).grown hgrow6 (by have := hbw.size; simp; omega) (fun j e => (hrow.lt j e).1)
            go_roundw
            case rel => exact ⟨k + 1, done ++ [u], by omega, by simp; omega, by go_num, by simpa [uv, HZ.out] using hown6, by rw [← HS.out, HT.out, mapU_cons, HY.out, HU.out, List.append_assoc], hb6⟩
            case measure => simp [intOf]; omega
          · replace hc1 := hc1 h2
            go_wp2_with (first
              | (go_at_call 20; refine (KF.out _).mono ?_; rintro e w' ⟨rfl, rfl⟩)
              | (go_at_call 21; refine (second_any v _).mono ?_; rintro e w' ⟨rfl, rfl⟩)
              | (at_builtin; refine wpList_append_own _ rfl _ _ 22 rfl w.heap.size 24 i0 (.int .u16 0) 1 2 Tryd.underlying22 hi hz0 hz1 hz2 rfl (by decide) _ _ _ rfl (hrow.alloc _) ⟨_, 0, none⟩ 1 1 [.int .u16 z] rfl rfl (cells_new _ [.int .u16 z] 24) (one_ints .u16 [z]) q3 (by omega) (by have := hbw.size; simp; omega) ?_; intro v6 w6 hown6 hgrow6 hnil6))
            have hb6 : Below w.heap.size w w6 := (hbw.alloc hbw.size _).grown hgrow6 (by have := hbw.size; simp; omega) (fun j e => (hrow.lt j e).1)
            go_roundw
            case rel => exact ⟨k + 1, done ++ [u], by omega, by simp; omega, by go_num, by simpa [uv, HZ.out] using hown6, by rw [← HS.out, HT.out, mapU_cons, HY.out, HU.out, List.append_assoc], hb6⟩
            case measure => simp [intOf]; omega
        · have cC := fun W (h : Below w.heap.size w W) => Tryd.unicode_ToUpper_laid ((u : Nat) : Int) W (CaseVar_below hV h)
          rw [Un.maps_up.eq u (by omega)] at cC
          have KC := (show Hid _ from cC)
          have hyl := Un.maps_up.le u (by omega)
          have hyn := Un.maps_up.none u (by omega) hh
          have hyu := unitsS_encode _ hyl hyn
          have hys := encode_size _ hyl hyn
          have cR := fun W (h : Below w.heap.size w W) => refUnits_any (Utf8.encode ((Un.upN u : Nat) : Int)) (by omega) W (tabs_below hT h)
          rw [hyu] at cR
          have KR := (show Hid _ from cR)
          have hyl2 := Un.unR_len (Un.upN u)
          obtain ⟨y, hy⟩ : ∃ y, Un.upN u = y := ⟨_, rfl⟩
          rw [hy] at KC KR hyl2
          have HY := (show Hid _ from hy)
          clear cC cR hy hyl hyn hyu hys
          have cF := fun W => first_any u W
          obtain ⟨z, hz⟩ : ∃ z : Int, (u : Int) = z := ⟨_, rfl⟩
          rw [hz] at hc0 cF KC
          have g0 : 0 ≤ z := by omega
          have g1 : z < 65536 := by omega
          have hh2 : z < 55296 ∨ (55296 ≤ z ∧ 57344 ≤ z) := by omega
          have KF := (show Hid _ from cF)
          clear hh hu0 hu1 hz cF
          rcases h3 with h2 | ⟨h2, bf⟩ | ⟨h2, bf, bg⟩
          · clear hc1
            rcases hh2 with hh2 | ⟨hh1, hh2⟩
            · go_wp2_with (first
                | (go_at_call 20; refine (KF.out _).mono ?_; rintro e w' ⟨rfl, rfl⟩)
                | (go_at_call 21; refine (second_any v _).mono ?_; rintro e w' ⟨rfl, rfl⟩)
                | (go_at_call 23; refine (KC.out _ (by first | exact hbw | exact ⟨hbw.os, hbw.tape, hbw.output, hbw.size, hbw.block⟩)).mono ?_; rintro e w4 ⟨rfl, q, rfl⟩)
                | (go_at_call 6; refine (KR.out _ (by first | exact hbw | exact ⟨hbw.os, hbw.tape, hbw.output, hbw.size, hbw.block⟩)).mono ?_; rintro e w5 ⟨v5, rfl, hownR, hnilR, hbR⟩; obtain ⟨g5, cap5, rfl⟩ := ownsRow_pos (by omega) hownR; have hrowR := ownsRow_later (w' := w5) (by exact hrow) hbR; have hbw5 : Below w.heap.size w w5 := Below.trans (by exact ⟨hbw.os, hbw.tape, hbw.output, hbw.size, hbw.block⟩) (hbR.mono (by exact hbw.size)); clear hnilR)
                | (at_builtin; refine wpList_append_own _ rfl _ _ 22 rfl w.heap.size 24 i0 (.int .u16 0) 1 2 Tryd.underlying22 hi hz0 hz1 hz2 rfl (by decide) _ _ _ rfl hrowR ⟨g5, 0, none⟩ (Un.unR y).length cap5 ((Un.unR y).map uv) rfl (by simp) (hownR.cells (g := g5) rfl) (one_uv (Un.unR y)) (by unfold maxLen; omega) (by omega) hbw5.size ?_; intro v6 w6 hown6 hgrow6 hnil6))
              have hb6 : Below w.heap.size w w6 := hbw5.grown hgrow6 hbw5.size (fun j e => (hrowR.lt j e).1)
              go_roundw
              case rel => exact ⟨k + 1, done ++ Un.unR y, by omega, by simp; omega, by go_num, by simpa using hown6, by rw [← HS.out, HT.out, mapU_cons, HY.out, List.append_assoc], hb6⟩
              case measure => simp [intOf]; omega
            · go_wp2_with (first
                | (go_at_call 20; refine (KF.out _).mono ?_; rintro e w' ⟨rfl, rfl⟩)
                | (go_at_call 21; refine (second_any v _).mono ?_; rintro e w' ⟨rfl, rfl⟩)
                | (go_at_call 23; refine (KC.out _ (by first | exact hbw | exact ⟨hbw.os, hbw.tape, hbw.output, hbw.size, hbw.block⟩)).mono ?_; rintro e w4 ⟨rfl, q, rfl⟩)
                | (go_at_call 6; refine (KR.out _ (by first | exact hbw | exact ⟨hbw.os, hbw.tape, hbw.output, hbw.size, hbw.block⟩)).mono ?_; rintro e w5 ⟨v5, rfl, hownR, hnilR, hbR⟩; obtain ⟨g5, cap5, rfl⟩ := ownsRow_pos (by omega) hownR; have hrowR := ownsRow_later (w' := w5) (by exact hrow) hbR; have hbw5 : Below w.heap.size w w5 := Below.trans (by exact ⟨hbw.os, hbw.tape, hbw.output, hbw.size, hbw.block⟩) (hbR.mono (by exact hbw.size)); clear hnilR)
                | (at_builtin; refine wpList_append_own _ rfl _ _ 22 rfl w.heap.size 24 i0 (.int .u16 0) 1 2 Tryd.underlying22 hi hz0 hz1 hz2 rfl (by decide) _ _ _ rfl hrowR ⟨g5, 0, none⟩ (Un.unR y).length cap5 ((Un.unR y).map uv) rfl (by simp) (hownR.cells (g := g5) rfl) (one_uv (Un.unR y)) (by unfold maxLen; omega) (by omega) hbw5.size ?_; intro v6 w6 hown6 hgrow6 hnil6))
              have hb6 : Below w.heap.size w w6 := hbw5.grown hgrow6 hbw5.size (fun j e => (hrowR.lt j e).1)
              go_roundw
              case rel => exact ⟨k + 1, done ++ Un.unR y, by omega, by simp; omega, by go_num, by simpa using hown6, by rw [← HS.out, HT.out, mapU_cons, HY.out, List.append_assoc], hb6⟩
              case measure => simp [intOf]; omega
          · replace hc1 := hc1 h2
            rcases hh2 with hh2 | ⟨hh1, hh2⟩
            · go_wp2_with (first
                | (go_at_call 20; refine (KF.out _).mono ?_; rintro e w' ⟨rfl, rfl⟩)
                | (go_at_call 21; refine (second_any v _).mono ?_; rintro e w' ⟨rfl, rfl⟩)
                | (go_at_call 23; refine (KC.out _ (by first | exact hbw | exact ⟨hbw.os, hbw.tape, hbw.output, hbw.size, hbw.block⟩)).mono ?_; rintro e w4 ⟨rfl, q, rfl⟩)
                | (go_at_call 6; refine (KR.out _ (by first | exact hbw | exact ⟨hbw.os, hbw.tape, hbw.output, hbw.size, hbw.block⟩)).mono ?_; rintro e w5 ⟨v5, rfl, hownR, hnilR, hbR⟩; obtain ⟨g5, cap5, rfl⟩ := ownsRow_pos (by omega) hownR; have hrowR := ownsRow_later (w' := w5) (by exact hrow) hbR; have hbw5 : Below w.heap.size w w5 := Below.trans (by exact ⟨hbw.os, hbw.tape, hbw.output, hbw.size, hbw.block⟩) (hbR.mono (by exact hbw.size)); clear hnilR)
                | (at_builtin; refine wpList_append_own _ rfl _ _ 22 rfl w.heap.size 24 i0 (.int .u16 0) 1 2 Tryd.underlying22 hi hz0 hz1 hz2 rfl (by decide) _ _ _ rfl hrowR ⟨g5, 0, none⟩ (Un.unR y).length cap5 ((Un.unR y).map uv) rfl (by simp) (hownR.cells (g := g5) rfl) (one_uv (Un.unR y)) (by unfold maxLen; omega) (by omega) hbw5.size ?_; intro v6 w6 hown6 hgrow6 hnil6))
              have hb6 : Below w.heap.size w w6 := hbw5.grown hgrow6 hbw5.size (fun j e => (hrowR.lt j e).1)
              go_roundw
              case rel => exact ⟨k + 1, done ++ Un.unR y, by omega, by simp; omega, by go_num, by simpa using hown6, by rw [← HS.out, HT.out, mapU_cons, HY.out, List.append_assoc], hb6⟩
              case measure => simp [intOf]; omega
            · go_wp2_with (first
                | (go_at_call 20; refine (KF.out _).mono ?_; rintro e w' ⟨rfl, rfl⟩)
                | (go_at_call 21; refine (second_any v _).mono ?_; rintro e w' ⟨rfl, rfl⟩)
                | (go_at_call 23; refine (KC.out _ (by first | exact hbw | exact ⟨hbw.os, hbw.tape, hbw.output, hbw.size, hbw.block⟩)).mono ?_; rintro e w4 ⟨rfl, q, rfl⟩)
                | (go_at_call 6; refine (KR.out _ (by first | exact hbw | exact ⟨hbw.os, hbw.tape, hbw.output, hbw.size, hbw.block⟩)).mono ?_; rintro e w5 ⟨v5, rfl, hownR, hnilR, hbR⟩; obtain ⟨g5, cap5, rfl⟩ := ownsRow_pos (by omega) hownR; have hrowR := ownsRow_later (w' := w5) (by exact hrow) hbR; have hbw5 : Below w.heap.size w w5 := Below.trans (by exact ⟨hbw.os, hbw.tape, hbw.output, hbw.size, hbw.block⟩) (hbR.mono (by exact hbw.size)); clear hnilR)
                | (at_builtin; refine wpList_append_own _ rfl _ _ 22 rfl w.heap.size 24 i0 (.int .u16 0) 1 2 Tryd.underlying22 hi hz0 hz1 hz2 rfl (by decide) _ _ _ rfl hrowR ⟨g5, 0, none⟩ (Un.unR y).length cap5 ((Un.unR y).map uv) rfl (by simp) (hownR.cells (g := g5) rfl) (one_uv (Un.unR y)) (by unfold maxLen; omega) (by omega) hbw5.size ?_; intro v6 w6 hown6 hgrow6 hnil6))
              have hb6 : Below w.heap.size w w6 := hbw5.grown hgrow6 hbw5.size (fun j e => (hrowR.lt j e).1)
              go_roundw
              case rel => exact ⟨k + 1, done ++ Un.unR y, by omega, by simp; omega, by go_num, by simpa using hown6, by rw [← HS.out, HT.out, mapU_cons, HY.out, List.append_assoc], hb6⟩
              case measure => simp [intOf]; omega
          · replace hc1 := hc1 h2
            rcases hh2 with hh2 | ⟨hh1, hh2⟩
            · go_wp2_with (first
                | (go_at_call 20; refine (KF.out _).mono ?_; rintro e w' ⟨rfl, rfl⟩)
                | (go_at_call 21; refine (second_any v _).mono ?_; rintro e w' ⟨rfl, rfl⟩)
                | (go_at_call 23; refine (KC.out _ (by first | exact hbw | exact ⟨hbw.os, hbw.tape, hbw.output, hbw.size, hbw.block⟩)).mono ?_; rintro e w4 ⟨rfl, q, rfl⟩)
                | (go_at_call 6; refine (KR.out _ (by first | exact hbw | exact ⟨hbw.os, hbw.tape, hbw.output, hbw.size, hbw.block⟩)).mono ?_; rintro e w5 ⟨v5, rfl, hownR, hnilR, hbR⟩; obtain ⟨g5, cap5, rfl⟩ := ownsRow_pos (by omega) hownR; have hrowR := ownsRow_later (w' := w5) (by exact hrow) hbR; have hbw5 : Below w.heap.size w w5 := Below.trans (by exact ⟨hbw.os, hbw.tape, hbw.output, hbw.size, hbw.block⟩) (hbR.mono (by exact hbw.size)); clear hnilR)
                | (at_builtin; refine wpList_append_own _ rfl _ _ 22 rfl w.heap.size 24 i0 (.int .u16 0) 1 2 Tryd.underlying22 hi hz0 hz1 hz2 rfl (by decide) _ _ _ rfl hrowR ⟨g5, 0, none⟩ (Un.unR y).length cap5 ((Un.unR y).map uv) rfl (by simp) (hownR.cells (g := g5) rfl) (one_uv (Un.unR y)) (by unfold maxLen; omega) (by omega) hbw5.size ?_; intro v6 w6 hown6 hgrow6 hnil6))
              have hb6 : Below w.heap.size w w6 := hbw5.grown hgrow6 hbw5.size (fun j e => (hrowR.lt j e).1)
              go_roundw
              case rel => exact ⟨k + 1, done ++ Un.unR y, by omega, by simp; omega, by go_num, by simpa using hown6, by rw [← HS.out, HT.out, mapU_cons, HY.out, List.append_assoc], hb6⟩
              case measure => simp [intOf]; omega
            · go_wp2_with (first
                | (go_at_call 20; refine (KF.out _).mono ?_; rintro e w' ⟨rfl, rfl⟩)
                | (go_at_call 21; refine (second_any v _).mono ?_; rintro e w' ⟨rfl, rfl⟩)
                | (go_at_call 23; refine (KC.out _ (by first | exact hbw | exact ⟨hbw.os, hbw.tape, hbw.output, hbw.size, hbw.block⟩)).mono ?_; rintro e w4 ⟨rfl, q, rfl⟩)
                | (go_at_call 6; refine (KR.out _ (by first | exact hbw | exact ⟨hbw.os, hbw.tape, hbw.output, hbw.size, hbw.block⟩)).mono ?_; rintro e w5 ⟨v5, rfl, hownR, hnilR, hbR⟩; obtain ⟨g5, cap5, rfl⟩ := ownsRow_pos (by omega) hownR; have hrowR := ownsRow_later (w' := w5) (by exact hrow) hbR; have hbw5 : Below w.heap.size w w5 := Below.trans (by exact ⟨hbw.os, hbw.tape, hbw.output, hbw.size, hbw.block⟩) (hbR.mono (by exact hbw.size)); clear hnilR)
                | (at_builtin; refine wpList_append_own _ rfl _ _ 22 rfl w.heap.size 24 i0 (.int .u16 0) 1 2 Tryd.underlying22 hi hz0 hz1 hz2 rfl (by decide) _ _ _ rfl hrowR ⟨g5, 0, none⟩ (Un.unR y).length cap5 ((Un.unR y).map uv) rfl (by simp) (hownR.cells (g := g5) rfl) (one_uv (Un.unR y)) (by unfold maxLen; omega) (by omega) hbw5.size ?_; intro v6 w6 hown6 hgrow6 hnil6))
              have hb6 : Below w.heap.size w w6 := hbw5.grown hgrow6 hbw5.size (fun j e => (hrowR.lt j e).1)
              go_roundw
              case rel => exact ⟨k + 1, done ++ Un.unR y, by omega, by simp; omega, by go_num, by simpa using hown6, by rw [← HS.out, HT.out, mapU_cons, HY.out, List.append_assoc], hb6⟩
              case measure => simp [intOf]; omega
    · obtain rfl : k = us.length := by omega
      have hfin : done = mapU Un.upN (Un.pts us) := by
        have := HS.out
        rw [List.drop_length] at this
        simpa [Un.pts, mapU] using this
      have HF := (show Hid _ from hfin)
      clear hfin
      go_wp2
      go_ret
      refine ⟨_, rfl, ?_, hbw⟩
      rw [← HF.out]
      exact hrow
end Go.Proofs.YtmjnmnnfpcaogaaDoor
