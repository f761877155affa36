/- The walk of the document's own Units. -/
import Derived.Test.YtmicdbplkfdfnaaGreatDoorCHu6x
import Derived.Deep.RegionHeld3
import Derived.BigRegion
import Derived.Deep.AppendLies
import Derived.Deep.RegionLaw
import Derived.Laws.BitsAllLaws
set_option linter.unusedVariables false
namespace Go.Proofs.YtmicdbplkfdfnaaGreatDoor
open Go.RowKit Go.Shelf

theorem unR_ne (r : Nat) : Un.unR r ≠ [] := fun e => by have := (Un.unR_len r).1; rw [e] at this; simp at this
theorem appTwo {W : World} {base : Nat} {v : Value} {done : List Nat} {r : Nat} (hr : 65535 < r) (h : W.ownsRow base 86 1 v (done.length + 2) (done.map uv ++ [.int .u16 (55296 + ((r : Int) - 65536) / 1024), .int .u16 (56320 + ((r : Int) - 65536) % 1024)])) :
    W.ownsRow base 86 1 v (done ++ Un.unR r).length ((done ++ Un.unR r).map uv) := by
  have e : Un.unR r = [55296 + (r - 65536) / 1024, 56320 + (r - 65536) % 1024] := by unfold Un.unR; rw [if_neg (by omega)]
  have e1 : ((55296 + (r - 65536) / 1024 : Nat) : Int) = 55296 + ((r : Int) - 65536) / 1024 := by omega
  have e2 : ((56320 + (r - 65536) % 1024 : Nat) : Int) = 56320 + ((r : Int) - 65536) % 1024 := by omega
  rw [← e1, ← e2] at h
  rw [e, List.length_append, List.map_append]
  exact h
theorem appOne {W : World} {base : Nat} {v : Value} {done : List Nat} {r : Nat} (hr : ¬ 65535 < r) (h : W.ownsRow base 86 1 v (done.length + 1) (done.map uv ++ [.int .u16 (r : Int)])) :
    W.ownsRow base 86 1 v (done ++ Un.unR r).length ((done ++ Un.unR r).map uv) := by
  have e : Un.unR r = [r] := by unfold Un.unR; rw [if_pos (by omega)]
  rw [e, List.length_append, List.map_append]
  exact h
theorem ownsRow_later {w w' : World} {base : Nat} {e : TypeId} {size : Nat} {v : Value} {n : Nat} {xs : List Value} (h : w.ownsRow base e size v n xs) (hb : Below w.heap.size w w') : w'.ownsRow base e size v n xs :=
  h.kept (below_grown hb) (by
    cases v.ownBlock with
    | none => exact .inl rfl
    | some _ => exact .inr (by simp))

set_option maxRecDepth 100000 in
set_option maxHeartbeats 8000000 in
theorem refUnits_any (s : ByteArray) (hs : s.size ≤ 2000000) (w : World) (hT : Lib.Utf8Tabs 2 3 w) :
    Calls Tryz.prog 31 #[.string s] w fun e w' => ∃ v, e = .returned v ∧ w'.ownsRow w.heap.size 86 1 v (unitsS s).length ((unitsS s).map uv) ∧ (v = .slice none 0 0 ↔ unitsS s = []) ∧ Below w.heap.size w w' := by
  obtain ⟨i0, hi, hz0, hz1, hz2⟩ := info_parts info24
  go_enter Tryz.func31, Tryz.ntmps31
  go_wp2
  go_loopw [3, 4] (fun l i wr => ∃ (k f : Nat) (done : List Nat), k ≤ s.size ∧ s.size - k ≤ f ∧ done.length ≤ 2 * k ∧ i = .int .i64 k ∧ wr.ownsRow w.heap.size 86 1 l done.length (done.map uv) ∧ (l = .slice none 0 0 ↔ done = []) ∧ done ++ Un.unitsL f ((bytes s).drop k) = unitsS s ∧ Below w.heap.size w wr)
    (fun _ i _ => s.size - (intOf i).toNat)
  case atStart => exact ⟨0, s.size, [], Nat.zero_le _, Nat.sub_le _ _, Nat.le_refl _, rfl, World.ownsRow_nil _ _ _ _, by simp, rfl, Below.refl _ _⟩
  case round =>
    obtain ⟨k, f, done, hk, hf, hd, rfl, hrow, hnil, hsum, hbw⟩ := hrel
    have HS : Hid (done ++ Un.unitsL f ((bytes s).drop k) = unitsS s) := hsum
    have HN : Hid (u3 = .slice none 0 0 ↔ done = []) := hnil
    clear hsum hnil
    by_cases hlt : k < s.size
    · have hdl : ((bytes s).drop k).length = s.size - k := by rw [List.length_drop, bytes_len]
      have hne' : (bytes s).drop k ≠ [] := fun e => by rw [e] at hdl; simp at hdl; omega
      have hpb := Un.ptL_bounds ((bytes s).drop k) hne' (fun b hb => bytes_lt s b (List.mem_of_mem_drop hb))
      have hst := Un.unitsL_step f ((bytes s).drop k) hne' (by rw [hdl]; exact hf)
      rw [List.drop_drop] at hst
      have hx : (s.extract k s.size).size = s.size - k := by rw [← bytes_len, bytes_drop, List.length_drop, bytes_len]
      have hdec := decodeGo_eq (s.extract k s.size) (by rw [hx]; omega)
      rw [bytes_drop, hdl] at hdec
      have cD := fun W (hW : Below w.heap.size w W) => Tryz.utf8_DecodeRuneInString (s.extract k s.size) W (tabs_below hT hW)
      have hpt : Un.ptL ((bytes s).drop k) = Un.pointN (s.size - k) ((bytes s)[k]?.getD 0) ((bytes s)[k + 1]?.getD 0) ((bytes s)[k + 2]?.getD 0) ((bytes s)[k + 3]?.getD 0) := by
        unfold Un.ptL
        rw [hdl]
        simp only [List.getElem?_drop, Nat.add_zero]
      simp only [List.getElem?_drop, Nat.add_zero] at hdec
      rw [hdec] at cD
      rw [hpt] at hst hpb
      have hb0 := Un.getD_byte (bytes_lt s) k
      have hb1 := Un.getD_byte (bytes_lt s) (k + 1)
      have hb2 := Un.getD_byte (bytes_lt s) (k + 2)
      have ha0 := bytes_at s k
      have ha1 := bytes_at s (k + 1)
      have ha2 := bytes_at s (k + 2)
      clear hdec hpt hx hne' hdl
      generalize (bytes s)[k]?.getD 0 = x0 at *
      generalize (bytes s)[k + 1]?.getD 0 = x1 at *
      generalize (bytes s)[k + 2]?.getD 0 = x2 at *
      generalize (bytes s)[k + 3]?.getD 0 = x3 at *
      by_cases hh : 3 ≤ s.size - k ∧ x0 = 237 ∧ 160 ≤ x1 ∧ x1 < 192 ∧ 128 ≤ x2 ∧ x2 < 192
      · obtain ⟨c1, c2, c3, c4, c5, c6⟩ := hh
        rw [Un.pointN_half _ x0 x1 x2 x3 c1 c2 c3 c4 c5 c6] at hst hpb
        clear cD
        replace ha0 := ha0 (by omega)
        replace ha1 := ha1 (by omega)
        replace ha2 := ha2 (by omega)
        simp only at hst hpb
        have HT : Hid (Un.unitsL f ((bytes s).drop k) = Un.unR (53248 + (x1 - 128) * 64 + (x2 - 128)) ++ Un.unitsL (f - 1) ((bytes s).drop (k + 3))) := hst
        clear hst hpb
        have eU : Un.unR (53248 + (x1 - 128) * 64 + (x2 - 128)) = [53248 + (x1 - 128) * 64 + (x2 - 128)] := by unfold Un.unR; rw [if_pos (by omega)]
        have eN : ((53248 + (x1 - 128) * 64 + (x2 - 128) : Nat) : Int) = 53248 + ((x1 : Int) - 128) * 64 + ((x2 : Int) - 128) := by omega
        have EU := (show Hid _ from eU)
        have EN := (show Hid _ from eN)
        clear eU eN
        have t2 : ((x0 : Int) == 237) = true := by simp; omega
        have C2 : Hid (x0 = 237) := c2
        clear c2
        have k1 : (2 : Int) < (s.size : Int) - (k : Int) := by omega
        have k2 : (k : Int) + 1 < (s.size : Int) := by omega
        have k3 : (k : Int) + 2 < (s.size : Int) := by omega
        have k4 : (0 : Int) ≤ (k : Int) + 1 := by omega
        have k5 : (0 : Int) ≤ (k : Int) + 2 := by omega
        have j1 : ∀ w, (Instr.index 9 (.string s) (.int .i64 ((k : Int) + 1))).run Tryz.prog w = .ok (.int .u8 (x1 : Int)) w := fun w => by
          rw [run_index_string w 9 s .i64 _ Tryz.underlying9, dif_pos ⟨k4, k2⟩]
          rw [← ha1]
          rfl
        have j2 : ∀ w, (Instr.index 9 (.string s) (.int .i64 ((k : Int) + 2))).run Tryz.prog w = .ok (.int .u8 (x2 : Int)) w := fun w => by
          rw [run_index_string w 9 s .i64 _ Tryz.underlying9, dif_pos ⟨k5, k3⟩]
          rw [← ha2]
          rfl
        have q3 : done.length + 1 ≤ maxLen := by unfold maxLen; omega
        go_wp2
        have wk1 : IntKind.i64.wrap ((k : Int) + 1) = (k : Int) + 1 := by rw [IntKind.wrap_i64]; omega
        have wk2 : IntKind.i64.wrap ((k : Int) + 2) = (k : Int) + 2 := by rw [IntKind.wrap_i64]; omega
        have wk3 : IntKind.u8.wrap ((x1 : Int) - 128) = (x1 : Int) - 128 := by rw [IntKind.wrap_u8]; omega
        have wk4 : IntKind.u8.wrap ((x2 : Int) - 128) = (x2 : Int) - 128 := by rw [IntKind.wrap_u8]; omega
        have wk5 : IntKind.i64.wrap (((x1 : Int) - 128) * 64) = ((x1 : Int) - 128) * 64 := by rw [IntKind.wrap_i64]; omega
        have wk6 : IntKind.i64.wrap (53248 + ((x1 : Int) - 128) * 64) = 53248 + ((x1 : Int) - 128) * 64 := by rw [IntKind.wrap_i64]; omega
        have wk7 : IntKind.i64.wrap (53248 + ((x1 : Int) - 128) * 64 + ((x2 : Int) - 128)) = 53248 + ((x1 : Int) - 128) * 64 + ((x2 : Int) - 128) := by rw [IntKind.wrap_i64]; omega
        have wk8 : IntKind.u16.wrap (53248 + ((x1 : Int) - 128) * 64 + ((x2 : Int) - 128)) = 53248 + ((x1 : Int) - 128) * 64 + ((x2 : Int) - 128) := by rw [IntKind.wrap_u16]; omega
        have wk9 : IntKind.i64.wrap ((x1 : Int) - 128) = (x1 : Int) - 128 := by rw [IntKind.wrap_i64]; omega
        have wk10 : IntKind.i64.wrap ((x2 : Int) - 128) = (x2 : Int) - 128 := by rw [IntKind.wrap_i64]; omega
        go_region_held3 (fun _ => True) (trivial) ((refine step_append_lies _ (by rfl) _ _ _ (by rfl) w.heap.size 86 i0 _ 1 2 Tryz.underlying83 hi hz0 hz1 hz2 rfl (by omega) u3 done.length (done.map uv) (by rfl) ((hrow.alloc _).drew) ⟨wr.heap.size, 0, none⟩ 1 1 [.int .u16 (53248 + ((x1 : Int) - 128) * 64 + ((x2 : Int) - 128))] (by rfl) (by rfl) (cells_new wr [.int .u16 (53248 + ((x1 : Int) - 128) * 64 + ((x2 : Int) - 128))] 86) (one_ints .u16 [53248 + ((x1 : Int) - 128) * 64 + ((x2 : Int) - 128)]) (by omega) q3 (by omega) (by have := hbw.size; simp; omega) (wr.heap.size + 1) (by simp) ?_; intro gg cap w1 hown1 hgrow hat hlt1))
        all_goals
          clear wk1 wk2 wk3 wk4 wk5 wk6 wk7 wk8 wk9 wk10 j1 j2
          have hb3 : Below w.heap.size w w1 := ((hbw.alloc hbw.size _).drew).grown hgrow (by have := hbw.size; simp; omega) (fun j e => (hrow.lt j e).1)
          go_wp2
          go_roundw
          case rel => exact ⟨k + 3, f - 1, done ++ [53248 + (x1 - 128) * 64 + (x2 - 128)], by omega, by omega, by simp; omega, by go_num, by simpa [uv, EN.out] using hown1, by simp, by rw [← HS.out, HT.out, EU.out, List.append_assoc], hb3⟩
          case measure => simp [intOf]; omega
      · rw [Un.pointN_plain _ x0 x1 x2 x3 hh] at hst hpb
        have hdl : ((bytes s).drop k).length = s.size - k := by rw [List.length_drop, bytes_len]
        rw [hdl] at hpb
        clear hdl
        generalize Lib.decodeN (s.size - k) x0 x1 x2 x3 = p at *
        obtain ⟨r, m⟩ := p
        simp only at hst hpb cD
        have HT : Hid (Un.unitsL f ((bytes s).drop k) = Un.unR r ++ Un.unitsL (f - 1) ((bytes s).drop (k + m))) := hst
        clear hst
        have hsplit : (s.size - k < 3) ∨ (3 ≤ s.size - k ∧ x0 ≠ 237) ∨ (3 ≤ s.size - k ∧ x0 = 237 ∧ x1 < 160) ∨ (3 ≤ s.size - k ∧ x0 = 237 ∧ 192 ≤ x1) ∨ (3 ≤ s.size - k ∧ x0 = 237 ∧ 160 ≤ x1 ∧ x1 < 192 ∧ x2 < 128) ∨ (3 ≤ s.size - k ∧ x0 = 237 ∧ 160 ≤ x1 ∧ x1 < 192 ∧ 192 ≤ x2) := by omega
        clear hh
        have q1 : done.length + 1 ≤ maxLen := by unfold maxLen; omega
        have q2 : done.length + 2 ≤ maxLen := by unfold maxLen; omega
        replace ha0 := ha0 hlt
        have cD' := (show Hid _ from cD)
        clear cD
        rcases hsplit with c1 | ⟨c1, c2⟩ | ⟨c1, c2, c3⟩ | ⟨c1, c2, c3⟩ | ⟨c1, c2, c3, c4, c5⟩ | ⟨c1, c2, c3, c4, c5⟩
        · clear ha1 ha2
          have k1 : ¬ (2 : Int) < (s.size : Int) - (k : Int) := by omega
          by_cases hr : 65535 < r
          · go_wp2_with (first
              | (go_at_call 58; refine (cD'.out _ hbw).mono ?_; rintro e w2 ⟨rfl, hbd⟩; have hbw2 := hbw.trans (hbd.mono hbw.size); have hrow2 := ownsRow_later hrow hbd)
              | (at_builtin; refine wpList_append_own _ rfl _ _ 83 rfl w.heap.size 86 i0 (.int .u16 0) 1 2 Tryz.underlying83 hi hz0 hz1 hz2 rfl (by decide) _ _ _ rfl (hrow2.alloc _) ⟨w2.heap.size, 0, none⟩ 2 2 [.int .u16 (55296 + ((r : Int) - 65536) / 1024), .int .u16 (56320 + ((r : Int) - 65536) % 1024)] rfl rfl (cells_new w2 [.int .u16 (55296 + ((r : Int) - 65536) / 1024), .int .u16 (56320 + ((r : Int) - 65536) % 1024)] 86) (one_ints .u16 [55296 + ((r : Int) - 65536) / 1024, 56320 + ((r : Int) - 65536) % 1024]) q2 (by omega) (by have := hbw2.size; simp; omega) ?_; intro v' w3 hown' hgrow hnil'))
            have hb3 : Below w.heap.size w w3 := (hbw2.alloc hbw2.size _).grown hgrow (by have := hbw2.size; simp; omega) (fun j e => (hrow2.lt j e).1)
            go_roundw
            case rel => exact ⟨k + m, f - 1, done ++ Un.unR r, by omega, by omega, by have := Un.unR_len r; simp; omega, by go_num, appTwo hr hown', (by obtain ⟨g', cap', rfl⟩ := ownsRow_pos (by omega) hown'; simp [unR_ne]), by rw [← HS.out, HT.out, List.append_assoc], hb3⟩
            case measure => simp [intOf]; omega
          · go_wp2_with (first
              | (go_at_call 58; refine (cD'.out _ hbw).mono ?_; rintro e w2 ⟨rfl, hbd⟩; have hbw2 := hbw.trans (hbd.mono hbw.size); have hrow2 := ownsRow_later hrow hbd)
              | (at_builtin; refine wpList_append_own _ rfl _ _ 83 rfl w.heap.size 86 i0 (.int .u16 0) 1 2 Tryz.underlying83 hi hz0 hz1 hz2 rfl (by decide) _ _ _ rfl (hrow2.alloc _) ⟨w2.heap.size, 0, none⟩ 1 1 [.int .u16 (r : Int)] rfl rfl (cells_new w2 [.int .u16 (r : Int)] 86) (one_ints .u16 [(r : Int)]) q1 (by omega) (by have := hbw2.size; simp; omega) ?_; intro v' w3 hown' hgrow hnil'))
            have hb3 : Below w.heap.size w w3 := (hbw2.alloc hbw2.size _).grown hgrow (by have := hbw2.size; simp; omega) (fun j e => (hrow2.lt j e).1)
            go_roundw
            case rel => exact ⟨k + m, f - 1, done ++ Un.unR r, by omega, by omega, by have := Un.unR_len r; simp; omega, by go_num, appOne hr hown', (by obtain ⟨g', cap', rfl⟩ := ownsRow_pos (by omega) hown'; simp [unR_ne]), by rw [← HS.out, HT.out, List.append_assoc], hb3⟩
            case measure => simp [intOf]; omega
        · clear ha1 ha2
          have k1 : (2 : Int) < (s.size : Int) - (k : Int) := by omega
          have t2 : ((x0 : Int) == 237) = false := by simp; omega
          clear c2
          by_cases hr : 65535 < r
          · go_wp2_with (first
              | (go_at_call 58; refine (cD'.out _ hbw).mono ?_; rintro e w2 ⟨rfl, hbd⟩; have hbw2 := hbw.trans (hbd.mono hbw.size); have hrow2 := ownsRow_later hrow hbd)
              | (at_builtin; refine wpList_append_own _ rfl _ _ 83 rfl w.heap.size 86 i0 (.int .u16 0) 1 2 Tryz.underlying83 hi hz0 hz1 hz2 rfl (by decide) _ _ _ rfl (hrow2.alloc _) ⟨w2.heap.size, 0, none⟩ 2 2 [.int .u16 (55296 + ((r : Int) - 65536) / 1024), .int .u16 (56320 + ((r : Int) - 65536) % 1024)] rfl rfl (cells_new w2 [.int .u16 (55296 + ((r : Int) - 65536) / 1024), .int .u16 (56320 + ((r : Int) - 65536) % 1024)] 86) (one_ints .u16 [55296 + ((r : Int) - 65536) / 1024, 56320 + ((r : Int) - 65536) % 1024]) q2 (by omega) (by have := hbw2.size; simp; omega) ?_; intro v' w3 hown' hgrow hnil'))
            have hb3 : Below w.heap.size w w3 := (hbw2.alloc hbw2.size _).grown hgrow (by have := hbw2.size; simp; omega) (fun j e => (hrow2.lt j e).1)
            go_roundw
            case rel => exact ⟨k + m, f - 1, done ++ Un.unR r, by omega, by omega, by have := Un.unR_len r; simp; omega, by go_num, appTwo hr hown', (by obtain ⟨g', cap', rfl⟩ := ownsRow_pos (by omega) hown'; simp [unR_ne]), by rw [← HS.out, HT.out, List.append_assoc], hb3⟩
            case measure => simp [intOf]; omega
          · go_wp2_with (first
              | (go_at_call 58; refine (cD'.out _ hbw).mono ?_; rintro e w2 ⟨rfl, hbd⟩; have hbw2 := hbw.trans (hbd.mono hbw.size); have hrow2 := ownsRow_later hrow hbd)
              | (at_builtin; refine wpList_append_own _ rfl _ _ 83 rfl w.heap.size 86 i0 (.int .u16 0) 1 2 Tryz.underlying83 hi hz0 hz1 hz2 rfl (by decide) _ _ _ rfl (hrow2.alloc _) ⟨w2.heap.size, 0, none⟩ 1 1 [.int .u16 (r : Int)] rfl rfl (cells_new w2 [.int .u16 (r : Int)] 86) (one_ints .u16 [(r : Int)]) q1 (by omega) (by have := hbw2.size; simp; omega) ?_; intro v' w3 hown' hgrow hnil'))
            have hb3 : Below w.heap.size w w3 := (hbw2.alloc hbw2.size _).grown hgrow (by have := hbw2.size; simp; omega) (fun j e => (hrow2.lt j e).1)
            go_roundw
            case rel => exact ⟨k + m, f - 1, done ++ Un.unR r, by omega, by omega, by have := Un.unR_len r; simp; omega, by go_num, appOne hr hown', (by obtain ⟨g', cap', rfl⟩ := ownsRow_pos (by omega) hown'; simp [unR_ne]), by rw [← HS.out, HT.out, List.append_assoc], hb3⟩
            case measure => simp [intOf]; omega
        · clear ha2
          replace ha1 := ha1 (by omega)
          have k1 : (2 : Int) < (s.size : Int) - (k : Int) := by omega
          have k2 : (k : Int) + 1 < (s.size : Int) := by omega
          have t2 : ((x0 : Int) == 237) = true := by simp; omega
          clear c2
          have d1 : ¬ (160 : Int) ≤ (x1 : Int) := by omega
          by_cases hr : 65535 < r
          · go_wp2_with (first
              | (go_at_call 58; refine (cD'.out _ hbw).mono ?_; rintro e w2 ⟨rfl, hbd⟩; have hbw2 := hbw.trans (hbd.mono hbw.size); have hrow2 := ownsRow_later hrow hbd)
              | (at_builtin; refine wpList_append_own _ rfl _ _ 83 rfl w.heap.size 86 i0 (.int .u16 0) 1 2 Tryz.underlying83 hi hz0 hz1 hz2 rfl (by decide) _ _ _ rfl (hrow2.alloc _) ⟨w2.heap.size, 0, none⟩ 2 2 [.int .u16 (55296 + ((r : Int) - 65536) / 1024), .int .u16 (56320 + ((r : Int) - 65536) % 1024)] rfl rfl (cells_new w2 [.int .u16 (55296 + ((r : Int) - 65536) / 1024), .int .u16 (56320 + ((r : Int) - 65536) % 1024)] 86) (one_ints .u16 [55296 + ((r : Int) - 65536) / 1024, 56320 + ((r : Int) - 65536) % 1024]) q2 (by omega) (by have := hbw2.size; simp; omega) ?_; intro v' w3 hown' hgrow hnil'))
            have hb3 : Below w.heap.size w w3 := (hbw2.alloc hbw2.size _).grown hgrow (by have := hbw2.size; simp; omega) (fun j e => (hrow2.lt j e).1)
            go_roundw
            case rel => exact ⟨k + m, f - 1, done ++ Un.unR r, by omega, by omega, by have := Un.unR_len r; simp; omega, by go_num, appTwo hr hown', (by obtain ⟨g', cap', rfl⟩ := ownsRow_pos (by omega) hown'; simp [unR_ne]), by rw [← HS.out, HT.out, List.append_assoc], hb3⟩
            case measure => simp [intOf]; omega
          · go_wp2_with (first
              | (go_at_call 58; refine (cD'.out _ hbw).mono ?_; rintro e w2 ⟨rfl, hbd⟩; have hbw2 := hbw.trans (hbd.mono hbw.size); have hrow2 := ownsRow_later hrow hbd)
              | (at_builtin; refine wpList_append_own _ rfl _ _ 83 rfl w.heap.size 86 i0 (.int .u16 0) 1 2 Tryz.underlying83 hi hz0 hz1 hz2 rfl (by decide) _ _ _ rfl (hrow2.alloc _) ⟨w2.heap.size, 0, none⟩ 1 1 [.int .u16 (r : Int)] rfl rfl (cells_new w2 [.int .u16 (r : Int)] 86) (one_ints .u16 [(r : Int)]) q1 (by omega) (by have := hbw2.size; simp; omega) ?_; intro v' w3 hown' hgrow hnil'))
            have hb3 : Below w.heap.size w w3 := (hbw2.alloc hbw2.size _).grown hgrow (by have := hbw2.size; simp; omega) (fun j e => (hrow2.lt j e).1)
            go_roundw
            case rel => exact ⟨k + m, f - 1, done ++ Un.unR r, by omega, by omega, by have := Un.unR_len r; simp; omega, by go_num, appOne hr hown', (by obtain ⟨g', cap', rfl⟩ := ownsRow_pos (by omega) hown'; simp [unR_ne]), by rw [← HS.out, HT.out, List.append_assoc], hb3⟩
            case measure => simp [intOf]; omega
        · clear ha2
          replace ha1 := ha1 (by omega)
          have k1 : (2 : Int) < (s.size : Int) - (k : Int) := by omega
          have k2 : (k : Int) + 1 < (s.size : Int) := by omega
          have t2 : ((x0 : Int) == 237) = true := by simp; omega
          clear c2
          have d1 : (160 : Int) ≤ (x1 : Int) := by omega
          have d2 : ¬ (x1 : Int) < 192 := by omega
          by_cases hr : 65535 < r
          · go_wp2_with (first
              | (go_at_call 58; refine (cD'.out _ hbw).mono ?_; rintro e w2 ⟨rfl, hbd⟩; have hbw2 := hbw.trans (hbd.mono hbw.size); have hrow2 := ownsRow_later hrow hbd)
              | (at_builtin; refine wpList_append_own _ rfl _ _ 83 rfl w.heap.size 86 i0 (.int .u16 0) 1 2 Tryz.underlying83 hi hz0 hz1 hz2 rfl (by decide) _ _ _ rfl (hrow2.alloc _) ⟨w2.heap.size, 0, none⟩ 2 2 [.int .u16 (55296 + ((r : Int) - 65536) / 1024), .int .u16 (56320 + ((r : Int) - 65536) % 1024)] rfl rfl (cells_new w2 [.int .u16 (55296 + ((r : Int) - 65536) / 1024), .int .u16 (56320 + ((r : Int) - 65536) % 1024)] 86) (one_ints .u16 [55296 + ((r : Int) - 65536) / 1024, 56320 + ((r : Int) - 65536) % 1024]) q2 (by omega) (by have := hbw2.size; simp; omega) ?_; intro v' w3 hown' hgrow hnil'))
            have hb3 : Below w.heap.size w w3 := (hbw2.alloc hbw2.size _).grown hgrow (by have := hbw2.size; simp; omega) (fun j e => (hrow2.lt j e).1)
            go_roundw
            case rel => exact ⟨k + m, f - 1, done ++ Un.unR r, by omega, by omega, by have := Un.unR_len r; simp; omega, by go_num, appTwo hr hown', (by obtain ⟨g', cap', rfl⟩ := ownsRow_pos (by omega) hown'; simp [unR_ne]), by rw [← HS.out, HT.out, List.append_assoc], hb3⟩
            case measure => simp [intOf]; omega
          · go_wp2_with (first
              | (go_at_call 58; refine (cD'.out _ hbw).mono ?_; rintro e w2 ⟨rfl, hbd⟩; have hbw2 := hbw.trans (hbd.mono hbw.size); have hrow2 := ownsRow_later hrow hbd)
              | (at_builtin; refine wpList_append_own _ rfl _ _ 83 rfl w.heap.size 86 i0 (.int .u16 0) 1 2 Tryz.underlying83 hi hz0 hz1 hz2 rfl (by decide) _ _ _ rfl (hrow2.alloc _) ⟨w2.heap.size, 0, none⟩ 1 1 [.int .u16 (r : Int)] rfl rfl (cells_new w2 [.int .u16 (r : Int)] 86) (one_ints .u16 [(r : Int)]) q1 (by omega) (by have := hbw2.size; simp; omega) ?_; intro v' w3 hown' hgrow hnil'))
            have hb3 : Below w.heap.size w w3 := (hbw2.alloc hbw2.size _).grown hgrow (by have := hbw2.size; simp; omega) (fun j e => (hrow2.lt j e).1)
            go_roundw
            case rel => exact ⟨k + m, f - 1, done ++ Un.unR r, by omega, by omega, by have := Un.unR_len r; simp; omega, by go_num, appOne hr hown', (by obtain ⟨g', cap', rfl⟩ := ownsRow_pos (by omega) hown'; simp [unR_ne]), by rw [← HS.out, HT.out, List.append_assoc], hb3⟩
            case measure => simp [intOf]; omega
        · replace ha1 := ha1 (by omega)
          have k1 : (2 : Int) < (s.size : Int) - (k : Int) := by omega
          have k2 : (k : Int) + 1 < (s.size : Int) := by omega
          have t2 : ((x0 : Int) == 237) = true := by simp; omega
          clear c2
          replace ha2 := ha2 (by omega)
          have k3 : (k : Int) + 2 < (s.size : Int) := by omega
          have d1 : (160 : Int) ≤ (x1 : Int) := by omega
          have d2 : (x1 : Int) < 192 := by omega
          have d3 : ¬ (128 : Int) ≤ (x2 : Int) := by omega
          by_cases hr : 65535 < r
          · go_wp2_with (first
              | (go_at_call 58; refine (cD'.out _ hbw).mono ?_; rintro e w2 ⟨rfl, hbd⟩; have hbw2 := hbw.trans (hbd.mono hbw.size); have hrow2 := ownsRow_later hrow hbd)
              | (at_builtin; refine wpList_append_own _ rfl _ _ 83 rfl w.heap.size 86 i0 (.int .u16 0) 1 2 Tryz.underlying83 hi hz0 hz1 hz2 rfl (by decide) _ _ _ rfl (hrow2.alloc _) ⟨w2.heap.size, 0, none⟩ 2 2 [.int .u16 (55296 + ((r : Int) - 65536) / 1024), .int .u16 (56320 + ((r : Int) - 65536) % 1024)] rfl rfl (cells_new w2 [.int .u16 (55296 + ((r : Int) - 65536) / 1024), .int .u16 (56320 + ((r : Int) - 65536) % 1024)] 86) (one_ints .u16 [55296 + ((r : Int) - 65536) / 1024, 56320 + ((r : Int) - 65536) % 1024]) q2 (by omega) (by have := hbw2.size; simp; omega) ?_; intro v' w3 hown' hgrow hnil'))
            have hb3 : Below w.heap.size w w3 := (hbw2.alloc hbw2.size _).grown hgrow (by have := hbw2.size; simp; omega) (fun j e => (hrow2.lt j e).1)
            go_roundw
            case rel => exact ⟨k + m, f - 1, done ++ Un.unR r, by omega, by omega, by have := Un.unR_len r; simp; omega, by go_num, appTwo hr hown', (by obtain ⟨g', cap', rfl⟩ := ownsRow_pos (by omega) hown'; simp [unR_ne]), by rw [← HS.out, HT.out, List.append_assoc], hb3⟩
            case measure => simp [intOf]; omega
          · go_wp2_with (first
              | (go_at_call 58; refine (cD'.out _ hbw).mono ?_; rintro e w2 ⟨rfl, hbd⟩; have hbw2 := hbw.trans (hbd.mono hbw.size); have hrow2 := ownsRow_later hrow hbd)
              | (at_builtin; refine wpList_append_own _ rfl _ _ 83 rfl w.heap.size 86 i0 (.int .u16 0) 1 2 Tryz.underlying83 hi hz0 hz1 hz2 rfl (by decide) _ _ _ rfl (hrow2.alloc _) ⟨w2.heap.size, 0, none⟩ 1 1 [.int .u16 (r : Int)] rfl rfl (cells_new w2 [.int .u16 (r : Int)] 86) (one_ints .u16 [(r : Int)]) q1 (by omega) (by have := hbw2.size; simp; omega) ?_; intro v' w3 hown' hgrow hnil'))
            have hb3 : Below w.heap.size w w3 := (hbw2.alloc hbw2.size _).grown hgrow (by have := hbw2.size; simp; omega) (fun j e => (hrow2.lt j e).1)
            go_roundw
            case rel => exact ⟨k + m, f - 1, done ++ Un.unR r, by omega, by omega, by have := Un.unR_len r; simp; omega, by go_num, appOne hr hown', (by obtain ⟨g', cap', rfl⟩ := ownsRow_pos (by omega) hown'; simp [unR_ne]), by rw [← HS.out, HT.out, List.append_assoc], hb3⟩
            case measure => simp [intOf]; omega
        · replace ha1 := ha1 (by omega)
          have k1 : (2 : Int) < (s.size : Int) - (k : Int) := by omega
          have k2 : (k : Int) + 1 < (s.size : Int) := by omega
          have t2 : ((x0 : Int) == 237) = true := by simp; omega
          clear c2
          replace ha2 := ha2 (by omega)
          have k3 : (k : Int) + 2 < (s.size : Int) := by omega
          have d1 : (160 : Int) ≤ (x1 : Int) := by omega
          have d2 : (x1 : Int) < 192 := by omega
          have d3 : (128 : Int) ≤ (x2 : Int) := by omega
          have d4 : ¬ (x2 : Int) < 192 := by omega
          by_cases hr : 65535 < r
          · go_wp2_with (first
              | (go_at_call 58; refine (cD'.out _ hbw).mono ?_; rintro e w2 ⟨rfl, hbd⟩; have hbw2 := hbw.trans (hbd.mono hbw.size); have hrow2 := ownsRow_later hrow hbd)
              | (at_builtin; refine wpList_append_own _ rfl _ _ 83 rfl w.heap.size 86 i0 (.int .u16 0) 1 2 Tryz.underlying83 hi hz0 hz1 hz2 rfl (by decide) _ _ _ rfl (hrow2.alloc _) ⟨w2.heap.size, 0, none⟩ 2 2 [.int .u16 (55296 + ((r : Int) - 65536) / 1024), .int .u16 (56320 + ((r : Int) - 65536) % 1024)] rfl rfl (cells_new w2 [.int .u16 (55296 + ((r : Int) - 65536) / 1024), .int .u16 (56320 + ((r : Int) - 65536) % 1024)] 86) (one_ints .u16 [55296 + ((r : Int) - 65536) / 1024, 56320 + ((r : Int) - 65536) % 1024]) q2 (by omega) (by have := hbw2.size; simp; omega) ?_; intro v' w3 hown' hgrow hnil'))
            have hb3 : Below w.heap.size w w3 := (hbw2.alloc hbw2.size _).grown hgrow (by have := hbw2.size; simp; omega) (fun j e => (hrow2.lt j e).1)
            go_roundw
            case rel => exact ⟨k + m, f - 1, done ++ Un.unR r, by omega, by omega, by have := Un.unR_len r; simp; omega, by go_num, appTwo hr hown', (by obtain ⟨g', cap', rfl⟩ := ownsRow_pos (by omega) hown'; simp [unR_ne]), by rw [← HS.out, HT.out, List.append_assoc], hb3⟩
            case measure => simp [intOf]; omega
          · go_wp2_with (first
              | (go_at_call 58; refine (cD'.out _ hbw).mono ?_; rintro e w2 ⟨rfl, hbd⟩; have hbw2 := hbw.trans (hbd.mono hbw.size); have hrow2 := ownsRow_later hrow hbd)
              | (at_builtin; refine wpList_append_own _ rfl _ _ 83 rfl w.heap.size 86 i0 (.int .u16 0) 1 2 Tryz.underlying83 hi hz0 hz1 hz2 rfl (by decide) _ _ _ rfl (hrow2.alloc _) ⟨w2.heap.size, 0, none⟩ 1 1 [.int .u16 (r : Int)] rfl rfl (cells_new w2 [.int .u16 (r : Int)] 86) (one_ints .u16 [(r : Int)]) q1 (by omega) (by have := hbw2.size; simp; omega) ?_; intro v' w3 hown' hgrow hnil'))
            have hb3 : Below w.heap.size w w3 := (hbw2.alloc hbw2.size _).grown hgrow (by have := hbw2.size; simp; omega) (fun j e => (hrow2.lt j e).1)
            go_roundw
            case rel => exact ⟨k + m, f - 1, done ++ Un.unR r, by omega, by omega, by have := Un.unR_len r; simp; omega, by go_num, appOne hr hown', (by obtain ⟨g', cap', rfl⟩ := ownsRow_pos (by omega) hown'; simp [unR_ne]), by rw [← HS.out, HT.out, List.append_assoc], hb3⟩
            case measure => simp [intOf]; omega
    · obtain rfl : k = s.size := by omega
      go_wp2
      go_ret
      have e : done = unitsS s := by
        have := HS.out
        rw [List.drop_of_length_le (by rw [bytes_len]; exact Nat.le_refl _), Un.unitsL_nil, List.append_nil] at this
        exact this
      subst e
      exact ⟨_, rfl, hrow, HN.out, hbw⟩
end Go.Proofs.YtmicdbplkfdfnaaGreatDoor
set_option linter.unusedVariables false
namespace Go.Proofs.YtmicdbplkfdfnaaGreatDoor
open Go.RowKit Go.Shelf

def pkB (us : List Nat) : List Nat := us.flatMap fun u => [u / 256, u % 256]
def pk (us : List Nat) : ByteArray := ⟨((pkB us).map UInt8.ofNat).toArray⟩
theorem pkB_snoc (l : List Nat) (u : Nat) : pkB (l ++ [u]) = pkB l ++ [u / 256, u % 256] := by simp [pkB]
theorem pkB_len (l : List Nat) : (pkB l).length = 2 * l.length := by
  induction l with
  | nil => rfl
  | cons a l ih => simp [pkB] at ih ⊢; omega
theorem pkB_lt (l : List Nat) (h : ∀ u ∈ l, u < 65536) : ∀ b ∈ pkB l, b < 256 := by
  intro b hb
  obtain ⟨u, hu, hb⟩ := List.mem_flatMap.1 hb
  have := h u hu
  simp at hb
  omega
set_option maxRecDepth 100000 in
set_option maxHeartbeats 2000000 in
theorem pack_any (us : List Nat) (hu : ∀ u ∈ us, u < 65536) (hlen : us.length ≤ 4000000) (w : World) (b off cap : Nat) (hb0 : b < w.heap.size) (hc : ∀ j, j < us.length → w.cell? ⟨b, off + j, none⟩ = (us[j]?).map uv) :
    Calls Tryz.prog 32 #[.slice (some ⟨b, off, none⟩) us.length cap] w fun e w' => e = .returned (.string (pk us)) ∧ Below w.heap.size w w' := by
  obtain ⟨i0, hi, hz0, hz1, hz2⟩ := info_parts info5
  go_enter Tryz.func32, Tryz.ntmps32
  go_wp2
  go_loopw [3, 4] (fun l i wr => ∃ (k : Nat) (done : List Nat), k ≤ us.length ∧ done = pkB (us.take k) ∧ done.length = 2 * k ∧ i = .int .i64 k ∧ wr.ownsRow w.heap.size 5 1 l done.length (done.map bv) ∧ (l = .slice none 0 0 ↔ done = []) ∧ Below w.heap.size w wr)
    (fun _ i _ => us.length - (intOf i).toNat)
  case atStart => exact ⟨0, [], Nat.zero_le _, rfl, rfl, rfl, World.ownsRow_nil _ _ _ _, by simp, Below.refl _ _⟩
  case round =>
    obtain ⟨k, done, hk, hd, hdl, rfl, hrow, hnil, hbw⟩ := hrel
    by_cases hlt : k < us.length
    · obtain ⟨u, hu1⟩ : ∃ u, us[k]? = some u := ⟨_, List.getElem?_eq_getElem hlt⟩
      have hul := hu u (List.mem_of_getElem? hu1)
      have hc0 : w.cell? ⟨b, off + k, none⟩ = some (.int .u16 (u : Int)) := by rw [hc k hlt, hu1]; rfl
      have hcell : wr.cell? ⟨b, off + k, none⟩ = some (.int .u16 (u : Int)) := by rw [hbw.cell (p := ⟨b, off + k, none⟩) hb0, hc0]
      have hsn : us.take (k + 1) = us.take k ++ [u] := by rw [List.take_add_one, hu1]; rfl
      have HD : Hid (done = pkB (us.take k)) := hd
      have HSN : Hid (us.take (k + 1) = us.take k ++ [u]) := hsn
      have q3 : done.length + 2 ≤ maxLen := by unfold maxLen; omega
      have d1 : (u : Int).tdiv 256 = ((u / 256 : Nat) : Int) := by rw [Int.tdiv_eq_ediv_of_nonneg (by omega)]; rfl
      have d2 : (u : Int).tmod 256 = ((u % 256 : Nat) : Int) := by rw [Int.tmod_eq_emod_of_nonneg (by omega)]; rfl
      have wb := hbw.size
      clear hd hsn hc hu hu1
      have v1 : IntKind.u8.wrap ((u / 256 : Nat) : Int) = ((u / 256 : Nat) : Int) := by rw [IntKind.wrap_u8]; omega
      have v2 : IntKind.u8.wrap ((u % 256 : Nat) : Int) = ((u % 256 : Nat) : Int) := by rw [IntKind.wrap_u8]; omega
      have v3 : IntKind.u16.wrap ((u / 256 : Nat) : Int) = ((u / 256 : Nat) : Int) := by rw [IntKind.wrap_u16]; omega
      have v4 : IntKind.u16.wrap ((u % 256 : Nat) : Int) = ((u % 256 : Nat) : Int) := by rw [IntKind.wrap_u16]; omega
      obtain ⟨hx, hhx⟩ : ∃ hx, hx = u / 256 := ⟨_, rfl⟩
      obtain ⟨lx, hlx⟩ : ∃ lx, lx = u % 256 := ⟨_, rfl⟩
      rw [← hhx] at d1 v1 v3
      rw [← hlx] at d2 v2 v4
      have HX : Hid (hx = u / 256) := hhx
      have LX : Hid (lx = u % 256) := hlx
      clear hhx hlx
      go_wp2
      have n1 := World.new_ne wr _ hcell
      go_region_held3 (fun W : World => W.cell? ⟨b, off + k, none⟩ = some (.int .u16 (u : Int))) (first | exact hcell | exact (World.cell?_alloc_lt _ _ ⟨b, off + k, none⟩ (Nat.lt_of_lt_of_le hb0 wb)).trans hcell | exact ((((hbw.alloc hbw.size _).drew).grown hgrow (by have := hbw.size; simp; omega) (fun j e => (hrow.lt j e).1)).cell (p := ⟨b, off + k, none⟩) hb0).trans hc0) ((refine step_append_lies _ (by rfl) _ _ _ (by rfl) w.heap.size 5 i0 _ 1 1 Tryz.underlying133 hi hz0 hz1 hz2 rfl (by omega) _ done.length (done.map bv) (by rfl) ((hrow.alloc _).drew) ⟨wr.heap.size, 0, none⟩ 2 2 [.int .u8 (hx : Int), .int .u8 (lx : Int)] (by rfl) (by rfl) (cells_new wr [.int .u8 (hx : Int), .int .u8 (lx : Int)] 5) (one_ints .u8 [(hx : Int), (lx : Int)]) (by omega) q3 (by omega) (by have := hbw.size; simp; omega) (wr.heap.size + 1) (by simp) ?_; intro gg cap w1 hown1 hgrow hat hlt1))
      all_goals
        have hb3 : Below w.heap.size w w1 := ((hbw.alloc hbw.size _).drew).grown hgrow (by have := hbw.size; simp; omega) (fun j e => (hrow.lt j e).1)
        have hown2 : w1.ownsRow w.heap.size 5 1 (.slice (some ⟨gg, 0, none⟩) (done.length + 2) cap) (done ++ [hx, lx]).length ((done ++ [hx, lx]).map bv) := by
          have e1 : (done ++ [hx, lx]).length = done.length + 2 := by simp
          have e2 : (done ++ [hx, lx]).map bv = done.map bv ++ [.int .u8 (hx : Int), .int .u8 (lx : Int)] := by simp [bv]
          rw [e1, e2]
          exact hown1
        have HO : Hid (w1.ownsRow w.heap.size 5 1 (.slice (some ⟨gg, 0, none⟩) (done.length + 2) cap) (done ++ [hx, lx]).length ((done ++ [hx, lx]).map bv)) := hown2
        have HB := (show Hid _ from hb3)
        have hdl2 : (done ++ [hx, lx]).length = 2 * (k + 1) := by simp; omega
        clear hown1 hgrow hat hrow hown2 hb3
        go_wp2
        go_roundw
        case rel => exact ⟨k + 1, done ++ [hx, lx], by omega, by rw [HSN.out, pkB_snoc, ← HD.out, HX.out, LX.out], hdl2, by go_num, by have h := HO.out; rw [hdl] at h; exact h, by simp, HB.out⟩
        case measure => simp [intOf]; omega
    · have hke : k = us.length := by omega
      subst hke
      rw [List.take_length] at hd
      have hlt2 := pkB_lt us hu
      rw [← hd] at hlt2
      by_cases h0 : done = []
      · have hl0 := hnil.2 h0
        subst hl0
        have e : pk us = ⟨#[]⟩ := by unfold pk; rw [← hd, h0]; rfl
        have HE := (show Hid _ from e)
        have hcv : (convert 133 9 (.slice none 0 0)).run Tryz.prog wr = .ok (.string ⟨#[]⟩) wr := by kernel_rfl
        clear hu hc hd hrow e
        go_wp2
        go_ret
        exact ⟨by rw [HE.out]; rfl, hbw⟩
      · obtain ⟨g, cc, rfl⟩ := ownsRow_pos (by cases done with | nil => exact absurd rfl h0 | cons _ _ => simp) hrow
        have hcv := conv_row hlt2 hrow
        have e : (⟨(done.map UInt8.ofNat).toArray⟩ : ByteArray) = pk us := by unfold pk; rw [hd]
        rw [e, hdl] at hcv
        clear hu hc hd hrow hlt2
        go_wp2
        go_ret
        exact ⟨rfl, hbw⟩
end Go.Proofs.YtmicdbplkfdfnaaGreatDoor
