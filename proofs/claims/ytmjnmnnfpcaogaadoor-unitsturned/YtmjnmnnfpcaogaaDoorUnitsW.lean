/- The walk of Units: the units of a text. -/
import Derived.Test.YtmjnmnnfpcaogaaDoorUnits
set_option linter.unusedVariables false
namespace Go.Proofs.YtmjnmnnfpcaogaaDoor
open Go.RowKit Go.Shelf

theorem cell_block_lt {w : World} {a : Addr} {v : Value} (h : w.cell? a = some v) : a.block < w.heap.size := World.block_lt_of_cell? w a h
theorem tabs_below {w w' : World} (hT : Lib.Utf8Tabs 1 2 w) (hb : Below w.heap.size w w') : Lib.Utf8Tabs 1 2 w' := by
  have h1 : 1 < w.heap.size := cell_block_lt (hT.1 0 (by omega))
  have h2 : 2 < w.heap.size := cell_block_lt (hT.2 0 (by omega)).1
  exact ⟨fun c hc => (hb.cell (p := ⟨1, c, none⟩) h1).trans (hT.1 c hc), fun i hi => ⟨(hb.cell (p := ⟨2, 2 * i, none⟩) h2).trans (hT.2 i hi).1, (hb.cell (p := ⟨2, 2 * i + 1, none⟩) h2).trans (hT.2 i hi).2⟩⟩

theorem below_grown {w w' : World} (h : Below w.heap.size w w') : w.grownBy w' none := ⟨h.os, h.tape, h.output, h.size, fun k hk _ => h.block k hk⟩

/-- The units of a text. -/
def unitsS (s : ByteArray) : List Nat := Un.unitsL s.size (bytes s)

theorem unitsS_ne (s : ByteArray) (h : s.size ≠ 0) : unitsS s ≠ [] := by
  have hne : bytes s ≠ [] := fun e => h (by rw [← bytes_len, e]; rfl)
  unfold unitsS
  rw [Un.unitsL_step s.size (bytes s) hne (by rw [bytes_len]; exact Nat.le_refl _)]
  intro e
  have h1 := (Un.unR_len (Un.ptL (bytes s)).1).1
  have h2 := congrArg List.length e
  rw [List.length_append] at h2
  simp only [List.length_nil] at h2
  omega

theorem ptL_low (bs : List Nat) (c : Nat) (h : bs[0]? = some c) (hc : c < 128) : Un.ptL bs = (c, 1) := by
  have hn : 1 ≤ bs.length := by cases bs with | nil => simp at h | cons _ _ => simp
  have hd : ∀ b1 b2 b3, Lib.decodeN bs.length c b1 b2 b3 = (c, 1) := by
    intro b1 b2 b3
    unfold Lib.decodeN
    repeat' split
    all_goals first | rfl | omega | (simp; omega)
  unfold Un.ptL Un.pointN
  rw [h]
  simp only [Option.getD_some]
  rw [hd, if_neg (by intro h2; omega)]
set_option maxRecDepth 100000 in
set_option maxHeartbeats 2000000 in
theorem units_any (s : ByteArray) (hs : s.size ≤ 100000) (w : World) (hT : Lib.Utf8Tabs 1 2 w) :
    Calls Tryd.prog 5 #[.string s] w fun e w' => ∃ v, e = .returned v ∧ w'.ownsRow w.heap.size 24 1 v (unitsS s).length ((unitsS s).map uv) ∧ (v = .slice none 0 0 ↔ unitsS s = []) ∧ Below w.heap.size w w' := by
  obtain ⟨i0, hi, hz0, hz1, hz2⟩ := info_parts info24
  by_cases h0 : s.size = 0
  · have hne : s.toList.isEmpty = true := by
      rw [Lib.toList_data]
      have : s.data.toList = [] := List.eq_nil_of_length_eq_zero (by rw [← Lib.size_eq]; exact h0)
      rw [this]; rfl
    have hu : unitsS s = [] := by simp [unitsS, h0, Un.unitsL]
    rw [hu]
    go_enter Tryd.func5, Tryd.ntmps5
    go_wp2
    go_ret
    exact ⟨_, rfl, World.ownsRow_nil _ _ _ _, by simp, Below.refl _ _⟩
  · have hne : s.toList.isEmpty = false := by
      rw [Lib.toList_data]
      cases h : s.data.toList with
      | nil => exact absurd (by rw [Lib.size_eq, h]; rfl) h0
      | cons _ _ => rfl
    go_enter Tryd.func5, Tryd.ntmps5
    go_wp2_with (at_make; refine wpList_make_own _ rfl _ _ 22 rfl w.heap.size 24 i0 (.int .u16 0) 1 Tryd.underlying22 hi hz0 hz1 .i64 .i64 _ s.size rfl rfl rfl (by rw [hz2]; omega) (by unfold maxLen; omega) (Nat.le_refl _) ?_; intro w1 hown0 hg0)
    have hb1 : Below w.heap.size w w1 := (Below.refl _ w).grown hg0 (Nat.le_refl _) (fun k e => by cases e)
    have hnz := unitsS_ne s h0
    go_loopw [3, 4] (fun l i wr => ∃ (k f : Nat) (done : List Nat) (g cap : Nat), k ≤ s.size ∧ s.size - k ≤ f ∧ done.length ≤ 2 * k ∧ i = .int .i64 k ∧ l = .slice (some ⟨g, 0, none⟩) done.length cap ∧ wr.ownsRow w.heap.size 24 1 (.slice (some ⟨g, 0, none⟩) done.length cap) done.length (done.map uv) ∧ done ++ Un.unitsL f ((bytes s).drop k) = unitsS s ∧ Below w.heap.size w wr)
      (fun _ i _ => s.size - (intOf i).toNat)
    case atStart => exact ⟨0, s.size, [], _, _, Nat.zero_le _, Nat.sub_le _ _, Nat.le_refl _, rfl, rfl, hown0, rfl, hb1⟩
    case round =>
      obtain ⟨k, f, done, g, cap, hk, hf, hd, rfl, rfl, hrow, hsum, hbw⟩ := hrel
      have HS : Hid (done ++ Un.unitsL f ((bytes s).drop k) = unitsS s) := hsum
      clear hsum
      by_cases hlt : k < s.size
      · have hx : (s.extract k s.size).size = s.size - k := by rw [← bytes_len, bytes_drop, List.length_drop, bytes_len]
        have hdl : ((bytes s).drop k).length = s.size - k := by rw [List.length_drop, bytes_len]
        have hne' : (bytes s).drop k ≠ [] := fun e => by rw [e] at hdl; simp at hdl; omega
        have hpb := Un.ptL_bounds ((bytes s).drop k) hne' (fun b hb => bytes_lt s b (List.mem_of_mem_drop hb))
        have hst := Un.unitsL_step f ((bytes s).drop k) hne' (by rw [hdl]; exact hf)
        rw [List.drop_drop] at hst
        obtain ⟨c, hc0⟩ : ∃ c, (s[k]'hlt).toNat = c := ⟨_, rfl⟩
        have j0 : ∀ w, (Instr.index 9 (.string s) (.int .i64 (k : Int))).run Tryd.prog w = .ok (.int .u8 (c : Int)) w := fun w => by
          rw [run_index_string w 9 s .i64 _ Tryd.underlying9, dif_pos ⟨by omega, by omega⟩]
          rw [← hc0]
          rfl
        have hcd : ((bytes s).drop k)[0]? = some c := by
          have h1 := bytes_at s k hlt
          rw [hc0] at h1
          rw [List.getElem?_drop, Nat.add_zero, List.getElem?_eq_getElem (by rw [bytes_len]; exact hlt)] at *
          simpa using h1.symm
        have hc256 : c < 256 := bytes_lt s c (List.mem_of_mem_drop (List.mem_of_getElem? hcd))
        by_cases hcl : c < 128
        · have hp := ptL_low _ c hcd hcl
          rw [hp] at hst
          simp only at hst
          have hu1 : Un.unR c = [c] := by unfold Un.unR; rw [if_pos (by omega)]
          rw [hu1] at hst
          have HT : Hid (Un.unitsL f ((bytes s).drop k) = [c] ++ Un.unitsL (f - 1) ((bytes s).drop (k + 1))) := hst
          have hcz : (c : Int) < 128 := by omega
          have wu : IntKind.u16.wrap (c : Int) = (c : Int) := by rw [IntKind.wrap_u16]; omega
          have q3 : done.length + 1 ≤ maxLen := by unfold maxLen; omega
          have hsz := hbw.size
          clear hst hp hu1 hpb hcd hc0 hne' hdl hx
          go_wp2_with (at_builtin; refine wpList_append_own _ rfl _ _ 22 rfl w.heap.size 24 i0 (.int .u16 0) 1 2 Tryd.underlying22 hi hz0 hz1 hz2 rfl (by decide) _ _ _ rfl (hrow.alloc _) ⟨wr.heap.size, 0, none⟩ 1 1 [.int .u16 (c : Int)] rfl rfl (cells_new wr [.int .u16 (c : Int)] 24) (one_ints .u16 [(c : Int)]) q3 (by omega) (by simp; omega) ?_; intro v' w3 hown' hgrow _; obtain ⟨g', cap', rfl⟩ := ownsRow_pos (by omega) hown')
          have hb3 : Below w.heap.size w w3 := (hbw.alloc hbw.size (Obj.cells #[.int .u16 (c : Int)] 24)).grown hgrow (by have := hbw.size; simp; omega) (fun j e => (hrow.lt j e).1)
          go_roundw
          case rel => exact ⟨k + 1, f - 1, done ++ [c], g', cap', by omega, by omega, by simp; omega, by go_num, by simp, by simpa [uv] using hown', by rw [← HS.out, HT.out, List.append_assoc], hb3⟩
          case measure => simp [intOf]; omega
        clear hcd hc0
        have cP := fun W (hW : Below w.heap.size w W) => pointAt_any (s.extract k s.size) (by rw [hx]; omega) (by rw [hx]; omega) W (tabs_below hT hW)
        rw [bytes_drop] at cP
        generalize Un.ptL ((bytes s).drop k) = p at *
        obtain ⟨r, m⟩ := p
        simp only at hst hpb cP
        have hul := Un.unR_len r
        have cA := fun W (hW : W.ownsRow w.heap.size 24 1 (.slice (some ⟨g, 0, none⟩) done.length cap) done.length (done.map uv)) (hB : Below w.heap.size w W) => appendUnits_any w.heap.size (.slice (some ⟨g, 0, none⟩) done.length cap) done.length (done.map uv) r hpb.2.2 W hW (by omega) hB.size
        have HT : Hid (Un.unitsL f ((bytes s).drop k) = Un.unR r ++ Un.unitsL (f - 1) ((bytes s).drop (k + m))) := hst
        clear hst
        have hcn : ¬ ((c : Int) < 128) := by omega
        go_wp2_with (first
          | (go_at_call 15; refine (cP _ hbw).mono ?_; rintro e w2 ⟨rfl, hb2⟩; have hbw2 := hbw.trans (hb2.mono hbw.size); have hrow2 := hrow.kept (below_grown hb2) (.inr (by simp [Value.ownBlock])))
          | (go_at_call 16; refine (cA _ hrow2 hbw2).mono ?_; rintro e w3 ⟨v', rfl, hown', o, hgrow⟩; obtain ⟨g', cap', rfl⟩ := ownsRow_pos (by omega) hown'))
        have hb3 : Below w.heap.size w w3 := (hbw2.alloc hbw2.size o).grown hgrow (by have := hbw2.size; simp; omega) (fun j e => (hrow2.lt j e).1)
        go_roundw
        case rel => exact ⟨k + m, f - 1, done ++ Un.unR r, g', cap', by omega, by omega, by simp; omega, by go_num, by simp, by simpa using hown', by rw [← HS.out, HT.out, List.append_assoc], hb3⟩
        case measure => simp [intOf]; omega
      · obtain rfl : k = s.size := by omega
        go_wp2
        go_ret
        have e : done = unitsS s := by
          have := HS.out
          rw [List.drop_of_length_le (by rw [bytes_len]; exact Nat.le_refl _), Un.unitsL_nil, List.append_nil] at this
          exact this
        subst e
        exact ⟨_, rfl, hrow, ⟨fun e => by simp at e, fun e => absurd e hnz⟩, hbw⟩
end Go.Proofs.YtmjnmnnfpcaogaaDoor
