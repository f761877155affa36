/- The walk of sameUnits. -/
import Derived.Test.YtmjnmnnfpcaogaaDoorUnitsW
import Derived.RegionTactic
set_option linter.unusedVariables false
namespace Go.Proofs.YtmjnmnnfpcaogaaDoor
open Go.RowKit Go.Shelf

theorem take_snoc_eq (us vs : List Nat) (k : Nat) (h1 : k < us.length) (h2 : k < vs.length) (h : us.take k = vs.take k) (e : us[k]?.getD 0 = vs[k]?.getD 0) : us.take (k + 1) = vs.take (k + 1) := by
  rw [List.take_succ_eq_append_getElem h1, List.take_succ_eq_append_getElem h2, h]
  rw [List.getElem?_eq_getElem h1, List.getElem?_eq_getElem h2] at e
  simp only [Option.getD_some] at e
  rw [e]

set_option maxRecDepth 100000 in
set_option maxHeartbeats 2000000 in
theorem same_any (a b : Value) (us vs : List Nat) (hu : us.length ≤ 1000000) (hv : vs.length ≤ 1000000) (w : World) (ha : Row16 w.heap.size w a us) (hb : Row16 w.heap.size w b vs) :
    Calls Tryd.prog 7 #[a, b] w fun e w' => e = .returned (.bool (decide (us = vs))) ∧ Below w.heap.size w w' := by
  by_cases hl : us.length = vs.length
  · have t1 : ((us.length : Int) != (vs.length : Int)) = false := by simp; omega
    by_cases h0 : us.length = 0
    · obtain ⟨ao, ca, rfl⟩ := ha.slice
      obtain ⟨bo, cb, rfl⟩ := hb.slice
      have e1 : us = [] := List.eq_nil_of_length_eq_zero h0
      have e2 : vs = [] := List.eq_nil_of_length_eq_zero (by omega)
      subst e1; subst e2
      go_enter Tryd.func7, Tryd.ntmps7
      go_wp2
      go_loopw [5] (fun i wr => i = .int .i64 0 ∧ wr = w) (fun _ _ => 0)
      case atStart => exact ⟨rfl, rfl⟩
      case round =>
        obtain ⟨rfl, rfl⟩ := hrel
        go_wp2
        go_ret
        exact ⟨by simp, Below.refl _ _⟩
    · rcases ha with ⟨_, e⟩ | ⟨b1, o1, c1, rfl, hb1, hc1⟩
      · exact absurd (by rw [e]; rfl) h0
      rcases hb with ⟨_, e⟩ | ⟨b2, o2, c2, rfl, hb2, hc2⟩
      · exact absurd (by rw [hl, e]; rfl) h0
      have HL : Hid (us.length = vs.length) := hl
      clear hl
      go_enter Tryd.func7, Tryd.ntmps7
      go_wp2
      go_loopw [5] (fun i wr => ∃ k : Nat, k ≤ us.length ∧ i = .int .i64 k ∧ us.take k = vs.take k ∧ Below w.heap.size w wr) (fun i _ => us.length - (intOf i).toNat)
      case atStart => exact ⟨0, Nat.zero_le _, rfl, rfl, Below.refl _ _⟩
      case round =>
        obtain ⟨k, hk, rfl, htk, hbw⟩ := hrel
        have HT : Hid (us.take k = vs.take k) := htk
        clear htk
        by_cases hlt : k < us.length
        · have hlt2 : k < vs.length := by rw [← HL.out]; exact hlt
          have hx1 : wr.cell? ⟨b1, o1 + k, none⟩ = some (.int .u16 ((us[k]?.getD 0 : Nat) : Int)) := (hbw.cell (p := ⟨b1, o1 + k, none⟩) hb1).trans (hc1 k hlt)
          have hx2 : wr.cell? ⟨b2, o2 + k, none⟩ = some (.int .u16 ((vs[k]?.getD 0 : Nat) : Int)) := (hbw.cell (p := ⟨b2, o2 + k, none⟩) hb2).trans (hc2 k hlt2)
          have hsn := take_snoc_eq us vs k hlt hlt2 HT.out
          have hne : us[k]?.getD 0 ≠ vs[k]?.getD 0 → us ≠ vs := fun h e => h (by rw [e])
          clear hc1 hc2
          generalize us[k]?.getD 0 = x at *
          generalize vs[k]?.getD 0 = y at *
          by_cases hxy : x = y
          · have t2 : ((x : Int) != (y : Int)) = false := by simp; omega
            have HN : Hid (us.take (k + 1) = vs.take (k + 1)) := hsn hxy
            clear hsn hne hxy
            go_wp2
            go_region
            go_wp2
            go_roundw
            case rel => exact ⟨k + 1, by omega, by go_num, HN.out, hbw.drew⟩
            case measure => simp [intOf]; omega
          · have t2 : ((x : Int) != (y : Int)) = true := by simp; omega
            have HN : Hid (us ≠ vs) := hne hxy
            clear hsn hne hxy
            go_wp2
            go_region
            go_wp2
            go_ret
            exact ⟨by simp [HN.out], hbw.drew⟩
        · obtain rfl : k = us.length := by omega
          go_wp2
          go_ret
          have e : us = vs := by
            have := HT.out
            rw [List.take_length, HL.out, List.take_length] at this
            exact this
          exact ⟨by simp [e], hbw⟩
  · have t1 : ((us.length : Int) != (vs.length : Int)) = true := by simp; omega
    have hne : us ≠ vs := fun e => hl (by rw [e])
    obtain ⟨ao, ca, rfl⟩ := ha.slice
    obtain ⟨bo, cb, rfl⟩ := hb.slice
    have HN : Hid (us ≠ vs) := hne
    clear hl hne ha hb
    go_enter Tryd.func7, Tryd.ntmps7
    go_wp2
    go_ret
    exact ⟨by simp [HN.out], Below.refl _ _⟩
end Go.Proofs.YtmjnmnnfpcaogaaDoor
