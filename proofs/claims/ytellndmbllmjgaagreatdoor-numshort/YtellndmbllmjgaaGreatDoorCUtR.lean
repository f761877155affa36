/- The walks of pointAt, appendUnits and Units. -/
import Derived.Test.YtellndmbllmjgaaGreatDoorCUtQ
import Derived.Test.YtellndmbllmjgaaGreatDoorCUtP
import Derived.Test.YtellndmbllmjgaaGreatDoorCSl
import Derived.Deep.QuietTactic
import Derived.BigQuiet
import Derived.Shelf.Unicode.PredsPay
import Derived.Shelf.Strings.CaseAny
set_option linter.unusedVariables false
namespace Go.Proofs.YtellndmbllmjgaaGreatDoor.Ut
open Go.RowKit Go.Shelf

/-- The bytes of a text. -/
def bytes (s : ByteArray) : List Nat := s.data.toList.map UInt8.toNat
theorem bytes_len (s : ByteArray) : (bytes s).length = s.size := by rw [bytes, List.length_map, ← Lib.size_eq]
theorem bytes_lt (s : ByteArray) : ∀ b ∈ bytes s, b < 256 := by
  intro b hb
  obtain ⟨x, _, rfl⟩ := List.mem_map.1 hb
  exact x.toNat_lt
theorem bytes_get (s : ByteArray) (k : Nat) : (s.get! k).toNat = (bytes s)[k]?.getD 0 := by
  by_cases h : k < s.size
  · rw [Utf8W.get!_of_lt s k h]
    have h' : k < s.data.toList.length := by rw [← Lib.size_eq]; exact h
    simp only [bytes, List.getElem?_map, List.getElem?_eq_getElem h', Option.map_some, Option.getD_some]
    rfl
  · have h' : ¬ k < (bytes s).length := by rw [bytes_len]; exact h
    rw [List.getElem?_eq_none (by omega)]
    cases s with
    | mk d =>
      have : ¬ k < d.size := h
      simp [ByteArray.get!, this]
      rfl
theorem decodeGo_eq (s : ByteArray) (h : s.size ≠ 0) : Lib.decodeGo s = Lib.decodeN (bytes s).length ((bytes s)[0]?.getD 0) ((bytes s)[1]?.getD 0) ((bytes s)[2]?.getD 0) ((bytes s)[3]?.getD 0) := by
  rw [Lib.decodeGo, if_neg h, Lib.decode_at, bytes_get, bytes_get, bytes_get, bytes_get, bytes_len]
  rfl
theorem bytes_at (s : ByteArray) (k : Nat) (h : k < s.size) : (s[k]'h).toNat = (bytes s)[k]?.getD 0 := by
  rw [← bytes_get, Utf8W.get!_of_lt s k h]
theorem bytes_drop (s : ByteArray) (k : Nat) : bytes (s.extract k s.size) = (bytes s).drop k := by
  rw [bytes, Lib.extract_to_end, bytes, List.map_drop]

set_option maxRecDepth 100000 in
theorem and224 : ∀ x : Fin 256, (bits .and .u8 ((x.val : Nat) : Int) 224 == 160) = decide (x.val / 32 = 5) := by decide +kernel
set_option maxRecDepth 100000 in
theorem and192 : ∀ x : Fin 256, (bits .and .u8 ((x.val : Nat) : Int) 192 == 128) = decide (x.val / 64 = 2) := by decide +kernel
theorem and224' (x : Nat) (h : x < 256) : (bits .and .u8 (x : Int) 224 == 160) = decide (x / 32 = 5) := and224 ⟨x, h⟩
theorem and192' (x : Nat) (h : x < 256) : (bits .and .u8 (x : Int) 192 == 128) = decide (x / 64 = 2) := and192 ⟨x, h⟩
theorem or_half (x y : Int) (h0 : 0 ≤ x) (h1 : x < 32) (h2 : 0 ≤ y) (h3 : y < 64) : bits .or .i32 (bits .or .i32 55296 (x * 64)) y = 55296 + x * 64 + y := by
  rw [bits_join .i32 31 (by decide) wraps_i32 11 55296 (x * 64) (by decide) (by decide) (by decide) (by omega) (by omega) (by omega)]
  rw [bits_join .i32 31 (by decide) wraps_i32 6 (55296 + x * 64) y (by omega) (by omega) (by omega) (by omega) (by omega) (by omega)]

set_option maxHeartbeats 1000000 in
set_option maxRecDepth 100000 in
/-- **pointAt, at every text that is not empty.** -/
theorem pointAt_any (s : ByteArray) (h0 : s.size ≠ 0) (hs : s.size ≤ 100000) (w : World) (hT : Lib.Utf8Tabs 1 2 w) :
    Calls Tryz.prog 133 #[.string s] w fun e w' => e = .returned (.tuple #[.int .i32 ((Un.ptL (bytes s)).1 : Nat), .int .i64 ((Un.ptL (bytes s)).2 : Nat)]) ∧ Below w.heap.size w w' := by
  have cD := Tryz.utf8_DecodeRuneInString s w hT
  have e1 := decodeGo_eq s h0
  have hb0 := Un.getD_byte (bytes_lt s) 0
  have hb1 := Un.getD_byte (bytes_lt s) 1
  have hb2 := Un.getD_byte (bytes_lt s) 2
  have ha0 := bytes_at s 0
  have ha1 := bytes_at s 1
  have ha2 := bytes_at s 2
  have hl := bytes_len s
  have hr := Un.decodeN_bounds (bytes s).length ((bytes s)[0]?.getD 0) ((bytes s)[1]?.getD 0) ((bytes s)[2]?.getD 0) ((bytes s)[3]?.getD 0) (by omega) hb0
  unfold Un.ptL
  rw [e1] at cD
  clear e1
  generalize (bytes s)[0]?.getD 0 = x0 at *
  generalize (bytes s)[1]?.getD 0 = x1 at *
  generalize (bytes s)[2]?.getD 0 = x2 at *
  generalize (bytes s)[3]?.getD 0 = x3 at *
  rw [hl] at *
  clear hl
  have hP : Un.pointN s.size x0 x1 x2 x3 = if Lib.decodeN s.size x0 x1 x2 x3 = (65533, 1) ∧ 3 ≤ s.size ∧ x0 = 237 ∧ x1 / 32 = 5 ∧ x2 / 64 = 2 then (55296 + x1 % 32 * 64 + x2 % 64, 3) else Lib.decodeN s.size x0 x1 x2 x3 := rfl
  generalize Un.pointN s.size x0 x1 x2 x3 = pp at *
  generalize Lib.decodeN s.size x0 x1 x2 x3 = dd at *
  obtain ⟨r, m⟩ := dd
  simp only [Prod.mk.injEq] at hP hr cD
  have HP : Hid (pp = if (r = 65533 ∧ m = 1) ∧ 3 ≤ s.size ∧ x0 = 237 ∧ x1 / 32 = 5 ∧ x2 / 64 = 2 then (55296 + x1 % 32 * 64 + x2 % 64, 3) else (r, m)) := hP
  clear hP
  have t1 : ((r : Int) == 65533) = decide (r = 65533) := by rw [Bool.eq_iff_iff]; simp; omega
  have t2 : ((m : Int) == 1) = decide (m = 1) := by rw [Bool.eq_iff_iff]; simp; omega
  have t4 : ((x0 : Int) == 237) = decide (x0 = 237) := by rw [Bool.eq_iff_iff]; simp; omega
  have t5 := and224' x1 hb1
  have t6 := and192' x2 hb2
  have hcase : (r = 65533 ∧ m = 1 ∧ 3 ≤ s.size ∧ x0 = 237 ∧ x1 / 32 = 5 ∧ x2 / 64 = 2) ∨ (r ≠ 65533) ∨ (r = 65533 ∧ m ≠ 1) ∨ (r = 65533 ∧ m = 1 ∧ ¬ 3 ≤ s.size) ∨ (r = 65533 ∧ m = 1 ∧ 3 ≤ s.size ∧ x0 ≠ 237) ∨ (r = 65533 ∧ m = 1 ∧ 3 ≤ s.size ∧ x0 = 237 ∧ ¬ x1 / 32 = 5) ∨ (r = 65533 ∧ m = 1 ∧ 3 ≤ s.size ∧ x0 = 237 ∧ x1 / 32 = 5 ∧ ¬ x2 / 64 = 2) := by omega
  rcases hcase with ⟨c1, c2, c3, c4, c5, c6⟩ | c1 | ⟨c1, c2⟩ | ⟨c1, c2, c3⟩ | ⟨c1, c2, c3, c4⟩ | ⟨c1, c2, c3, c4, c5⟩ | ⟨c1, c2, c3, c4, c5, c6⟩
  · have hpp : pp = (55296 + x1 % 32 * 64 + x2 % 64, 3) := by rw [HP.out, if_pos ⟨⟨c1, c2⟩, c3, c4, c5, c6⟩]
    subst hpp
    clear HP
    replace ha0 := ha0 (by omega)
    replace ha1 := ha1 (by omega)
    replace ha2 := ha2 (by omega)
    rw [decide_eq_true c1] at t1
    rw [decide_eq_true c2] at t2
    rw [decide_eq_true c4] at t4
    rw [decide_eq_true c5] at t5
    rw [decide_eq_true c6] at t6
    have o1 := u8_and31 (x := (x1 : Int)) (by omega) (by omega)
    have o2 := u8_and63 (x := (x2 : Int)) (by omega) (by omega)
    have o3 := or_half ((x1 : Int) % 32) ((x2 : Int) % 64) (by omega) (by omega) (by omega) (by omega)
    have k1 : (1 : Int) < (s.size : Int) := by omega
    have k2 : (2 : Int) < (s.size : Int) := by omega
    have k3 : (3 : Int) ≤ (s.size : Int) := by omega
    have k0 : (0 : Int) < (s.size : Int) := by omega
    have CC : Hid (r = 65533 ∧ m = 1 ∧ x0 = 237) := ⟨c1, c2, c4⟩
    clear c1 c2 c4 c5 c6 hT
    go_enter Tryz.func133, Tryz.ntmps133
    go_wp2_with (go_at_call 38; refine cD.mono ?_; rintro e w' ⟨rfl, hbw⟩)
    go_region
    go_wp2
    go_ret2
    exact ⟨by simp, hbw.drew⟩
  · have hpp : pp = (r, m) := by rw [HP.out, if_neg (fun h => c1 h.1.1)]
    subst hpp
    clear HP
    rw [decide_eq_false c1] at t1
    clear t2 t4 t5 t6 ha0 ha1 ha2 c1 hT
    go_enter Tryz.func133, Tryz.ntmps133
    go_wp2_with (go_at_call 38; refine cD.mono ?_; rintro e w' ⟨rfl, hbw⟩)
    go_ret2
    exact ⟨rfl, hbw⟩
  · have hpp : pp = (r, m) := by rw [HP.out, if_neg (fun h => c2 h.1.2)]
    subst hpp
    clear HP
    rw [decide_eq_true c1] at t1
    rw [decide_eq_false c2] at t2
    clear t4 t5 t6 ha0 ha1 ha2 c1 c2 hT
    go_enter Tryz.func133, Tryz.ntmps133
    go_wp2_with (go_at_call 38; refine cD.mono ?_; rintro e w' ⟨rfl, hbw⟩)
    go_ret2
    exact ⟨rfl, hbw⟩
  · have hpp : pp = (r, m) := by rw [HP.out, if_neg (fun h => c3 h.2.1)]
    subst hpp
    clear HP
    rw [decide_eq_true c1] at t1
    rw [decide_eq_true c2] at t2
    have k3 : ¬ (3 : Int) ≤ (s.size : Int) := by omega
    clear t4 t5 t6 ha0 ha1 ha2 c1 c2 c3 hT
    go_enter Tryz.func133, Tryz.ntmps133
    go_wp2_with (go_at_call 38; refine cD.mono ?_; rintro e w' ⟨rfl, hbw⟩)
    go_ret2
    exact ⟨rfl, hbw⟩
  · have hpp : pp = (r, m) := by rw [HP.out, if_neg (fun h => c4 h.2.2.1)]
    subst hpp
    clear HP
    rw [decide_eq_true c1] at t1
    rw [decide_eq_true c2] at t2
    rw [decide_eq_false c4] at t4
    have k3 : (3 : Int) ≤ (s.size : Int) := by omega
    have k0 : (0 : Int) < (s.size : Int) := by omega
    replace ha0 := ha0 (by omega)
    clear t5 t6 ha1 ha2 c1 c2 c4 hT
    go_enter Tryz.func133, Tryz.ntmps133
    go_wp2_with (go_at_call 38; refine cD.mono ?_; rintro e w' ⟨rfl, hbw⟩)
    go_ret2
    exact ⟨rfl, hbw⟩
  · have hpp : pp = (r, m) := by rw [HP.out, if_neg (fun h => c5 h.2.2.2.1)]
    subst hpp
    clear HP
    rw [decide_eq_true c1] at t1
    rw [decide_eq_true c2] at t2
    rw [decide_eq_true c4] at t4
    rw [decide_eq_false c5] at t5
    have k3 : (3 : Int) ≤ (s.size : Int) := by omega
    have k0 : (0 : Int) < (s.size : Int) := by omega
    have k1 : (1 : Int) < (s.size : Int) := by omega
    replace ha0 := ha0 (by omega)
    replace ha1 := ha1 (by omega)
    clear t6 ha2 c1 c2 c4 c5 hT
    go_enter Tryz.func133, Tryz.ntmps133
    go_wp2_with (go_at_call 38; refine cD.mono ?_; rintro e w' ⟨rfl, hbw⟩)
    go_ret2
    exact ⟨rfl, hbw⟩
  · have hpp : pp = (r, m) := by rw [HP.out, if_neg (fun h => c6 h.2.2.2.2)]
    subst hpp
    clear HP
    rw [decide_eq_true c1] at t1
    rw [decide_eq_true c2] at t2
    rw [decide_eq_true c4] at t4
    rw [decide_eq_true c5] at t5
    rw [decide_eq_false c6] at t6
    have k3 : (3 : Int) ≤ (s.size : Int) := by omega
    have k0 : (0 : Int) < (s.size : Int) := by omega
    have k1 : (1 : Int) < (s.size : Int) := by omega
    have k2 : (2 : Int) < (s.size : Int) := by omega
    replace ha0 := ha0 (by omega)
    replace ha1 := ha1 (by omega)
    replace ha2 := ha2 (by omega)
    clear c1 c2 c4 c5 c6 hT
    go_enter Tryz.func133, Tryz.ntmps133
    go_wp2_with (go_at_call 38; refine cD.mono ?_; rintro e w' ⟨rfl, hbw⟩)
    go_ret2
    exact ⟨rfl, hbw⟩

/-- A unit as a cell. -/
def uv (u : Nat) : Value := .int .u16 (u : Int)
theorem i32_and1023 (x : Int) (h0 : 0 ≤ x) (h1 : x < 2147483648) : bits .and .i32 x 1023 = x % 1024 := bits_mask .i32 31 (by decide) wraps_i32 10 (by decide) x h0 h1

set_option maxHeartbeats 1000000 in
set_option maxRecDepth 100000 in
theorem appU_one (B : Nat) (v : Value) (n : Nat) (xs : List Value) (r : Int) (h0 : 0 ≤ r) (h1 : r < 65536) (w : World) (hown : w.ownsRow B 58 1 v n xs) (hlen : n + 4 ≤ 1000000) (hBw : B ≤ w.heap.size) :
    Calls Tryz.prog 134 #[v, .int .i32 r] w fun e w' => ∃ v', e = .returned v' ∧ w'.ownsRow B 58 1 v' (n + 1) (xs ++ [.int .u16 r]) ∧ ∃ o, (w.alloc o).grownBy w' v.ownBlock := by
  obtain ⟨i0, hi, hz0, hz1, hz2⟩ := info_parts info24
  have q3 : n + 1 ≤ maxLen := by unfold maxLen; omega
  go_enter Tryz.func134, Tryz.ntmps134
  go_wp2_with (at_builtin; refine wpList_append_own _ rfl _ _ 27 rfl B 58 i0 (.int .u16 0) 1 2 Tryz.underlying27 hi hz0 hz1 hz2 rfl (by decide) _ _ _ rfl (hown.alloc _) ⟨w.heap.size, 0, none⟩ 1 1 [.int .u16 r] rfl rfl (cells_new w [.int .u16 r] 58) (one_ints .u16 [r]) q3 (by omega) (by simp; omega) ?_; intro v' w2 hown' hgrow _)
  go_ret
  exact ⟨_, rfl, hown', _, hgrow⟩

set_option maxHeartbeats 1000000 in
set_option maxRecDepth 100000 in
theorem appU_two (B : Nat) (v : Value) (n : Nat) (xs : List Value) (r : Int) (h0 : 65536 ≤ r) (h1 : r ≤ 1114111) (w : World) (hown : w.ownsRow B 58 1 v n xs) (hlen : n + 4 ≤ 1000000) (hBw : B ≤ w.heap.size) :
    Calls Tryz.prog 134 #[v, .int .i32 r] w fun e w' => ∃ v', e = .returned v' ∧ w'.ownsRow B 58 1 v' (n + 2) (xs ++ [.int .u16 (55296 + (r - 65536) / 1024), .int .u16 (56320 + (r - 65536) % 1024)]) ∧ ∃ o, (w.alloc o).grownBy w' v.ownBlock := by
  obtain ⟨i0, hi, hz0, hz1, hz2⟩ := info_parts info24
  have q3 : n + 2 ≤ maxLen := by unfold maxLen; omega
  have b1 := i32_and1023 (r - 65536) (by omega) (by omega)
  go_enter Tryz.func134, Tryz.ntmps134
  go_wp2_with (at_builtin; refine wpList_append_own _ rfl _ _ 27 rfl B 58 i0 (.int .u16 0) 1 2 Tryz.underlying27 hi hz0 hz1 hz2 rfl (by decide) _ _ _ rfl (hown.alloc _) ⟨w.heap.size, 0, none⟩ 2 2 [.int .u16 (55296 + (r - 65536) / 1024), .int .u16 (56320 + (r - 65536) % 1024)] rfl rfl (cells_new w [.int .u16 (55296 + (r - 65536) / 1024), .int .u16 (56320 + (r - 65536) % 1024)] 58) (one_ints .u16 [55296 + (r - 65536) / 1024, 56320 + (r - 65536) % 1024]) q3 (by omega) (by simp; omega) ?_; intro v' w2 hown' hgrow _)
  go_ret
  exact ⟨_, rfl, hown', _, hgrow⟩

/-- **appendUnits, at every code point and every half.** -/
theorem appendUnits_any (B : Nat) (v : Value) (n : Nat) (xs : List Value) (r : Nat) (hr : r ≤ 1114111) (w : World) (hown : w.ownsRow B 58 1 v n xs) (hlen : n + 4 ≤ 1000000) (hBw : B ≤ w.heap.size) :
    Calls Tryz.prog 134 #[v, .int .i32 (r : Int)] w fun e w' => ∃ v', e = .returned v' ∧ w'.ownsRow B 58 1 v' (n + (Un.unR r).length) (xs ++ (Un.unR r).map uv) ∧ ∃ o, (w.alloc o).grownBy w' v.ownBlock := by
  unfold Un.unR
  by_cases h1 : r < 65536
  · rw [if_pos h1]
    exact appU_one B v n xs r (by omega) (by omega) w hown hlen hBw
  · rw [if_neg h1]
    have e1 : ((55296 + (r - 65536) / 1024 : Nat) : Int) = 55296 + ((r : Int) - 65536) / 1024 := by omega
    have e2 : ((56320 + (r - 65536) % 1024 : Nat) : Int) = 56320 + ((r : Int) - 65536) % 1024 := by omega
    have := appU_two B v n xs r (by omega) (by omega) w hown hlen hBw
    rw [← e1, ← e2] at this
    exact this
end Go.Proofs.YtellndmbllmjgaaGreatDoor.Ut
/- The walk of Units: the units of a text. -/
set_option linter.unusedVariables false
namespace Go.Proofs.YtellndmbllmjgaaGreatDoor.Ut
open Go.RowKit Go.Shelf

theorem cell_block_lt {w : World} {a : Addr} {v : Value} (h : w.cell? a = some v) : a.block < w.heap.size := World.block_lt_of_cell? w a h
theorem tabs_below {w w' : World} (hT : Lib.Utf8Tabs 1 2 w) (hb : Below w.heap.size w w') : Lib.Utf8Tabs 1 2 w' := by
  have h1 : 1 < w.heap.size := cell_block_lt (hT.1 0 (by omega))
  have h2 : 2 < w.heap.size := cell_block_lt (hT.2 0 (by omega)).1
  exact ⟨fun c hc => (hb.cell (p := ⟨1, c, none⟩) h1).trans (hT.1 c hc), fun i hi => ⟨(hb.cell (p := ⟨2, 2 * i, none⟩) h2).trans (hT.2 i hi).1, (hb.cell (p := ⟨2, 2 * i + 1, none⟩) h2).trans (hT.2 i hi).2⟩⟩

theorem below_grown {w w' : World} (h : Below w.heap.size w w') : w.grownBy w' none := ⟨h.os, h.tape, h.output, h.size, fun k hk _ => h.block k hk⟩

/-- The units of a text. -/
def unitsS (s : ByteArray) : List Nat := Un.unitsL s.size (bytes s)

theorem unitsS_ne (s : ByteArray) (h : s.size ≠ 0) : unitsS s ≠ [] := by
  have hne : bytes s ≠ [] := fun e => h (by rw [← bytes_len, e]; rfl)
  unfold unitsS
  rw [Un.unitsL_step s.size (bytes s) hne (by rw [bytes_len]; exact Nat.le_refl _)]
  intro e
  have h1 := (Un.unR_len (Un.ptL (bytes s)).1).1
  have h2 := congrArg List.length e
  rw [List.length_append] at h2
  simp only [List.length_nil] at h2
  omega

theorem ptL_low (bs : List Nat) (c : Nat) (h : bs[0]? = some c) (hc : c < 128) : Un.ptL bs = (c, 1) := by
  have hn : 1 ≤ bs.length := by cases bs with | nil => simp at h | cons _ _ => simp
  have hd : ∀ b1 b2 b3, Lib.decodeN bs.length c b1 b2 b3 = (c, 1) := by
    intro b1 b2 b3
    unfold Lib.decodeN
    repeat' split
    all_goals first | rfl | omega | (simp; omega)
  unfold Un.ptL Un.pointN
  rw [h]
  simp only [Option.getD_some]
  rw [hd, if_neg (by intro h2; omega)]
set_option maxRecDepth 100000 in
set_option maxHeartbeats 2000000 in
theorem units_any (s : ByteArray) (hs : s.size ≤ 100000) (w : World) (hT : Lib.Utf8Tabs 1 2 w) :
    Calls Tryz.prog 90 #[.string s] w fun e w' => ∃ v, e = .returned v ∧ w'.ownsRow w.heap.size 58 1 v (unitsS s).length ((unitsS s).map uv) ∧ (v = .slice none 0 0 ↔ unitsS s = []) ∧ Below w.heap.size w w' := by
  obtain ⟨i0, hi, hz0, hz1, hz2⟩ := info_parts info24
  by_cases h0 : s.size = 0
  · have hne : s.toList.isEmpty = true := by
      rw [Lib.toList_data]
      have : s.data.toList = [] := List.eq_nil_of_length_eq_zero (by rw [← Lib.size_eq]; exact h0)
      rw [this]; rfl
    have hu : unitsS s = [] := by simp [unitsS, h0, Un.unitsL]
    rw [hu]
    go_enter Tryz.func90, Tryz.ntmps90
    go_wp2
    go_ret
    exact ⟨_, rfl, World.ownsRow_nil _ _ _ _, by simp, Below.refl _ _⟩
  · have hne : s.toList.isEmpty = false := by
      rw [Lib.toList_data]
      cases h : s.data.toList with
      | nil => exact absurd (by rw [Lib.size_eq, h]; rfl) h0
      | cons _ _ => rfl
    go_enter Tryz.func90, Tryz.ntmps90
    go_wp2_with (at_make; refine wpList_make_own _ rfl _ _ 27 rfl w.heap.size 58 i0 (.int .u16 0) 1 Tryz.underlying27 hi hz0 hz1 .i64 .i64 _ s.size rfl rfl rfl (by rw [hz2]; omega) (by unfold maxLen; omega) (Nat.le_refl _) ?_; intro w1 hown0 hg0)
    have hb1 : Below w.heap.size w w1 := (Below.refl _ w).grown hg0 (Nat.le_refl _) (fun k e => by cases e)
    have hnz := unitsS_ne s h0
    go_loopw [3, 4] (fun l i wr => ∃ (k f : Nat) (done : List Nat) (g cap : Nat), k ≤ s.size ∧ s.size - k ≤ f ∧ done.length ≤ 2 * k ∧ i = .int .i64 k ∧ l = .slice (some ⟨g, 0, none⟩) done.length cap ∧ wr.ownsRow w.heap.size 58 1 (.slice (some ⟨g, 0, none⟩) done.length cap) done.length (done.map uv) ∧ done ++ Un.unitsL f ((bytes s).drop k) = unitsS s ∧ Below w.heap.size w wr)
      (fun _ i _ => s.size - (intOf i).toNat)
    case atStart => exact ⟨0, s.size, [], _, _, Nat.zero_le _, Nat.sub_le _ _, Nat.le_refl _, rfl, rfl, hown0, rfl, hb1⟩
    case round =>
      obtain ⟨k, f, done, g, cap, hk, hf, hd, rfl, rfl, hrow, hsum, hbw⟩ := hrel
      have HS : Hid (done ++ Un.unitsL f ((bytes s).drop k) = unitsS s) := hsum
      clear hsum
      by_cases hlt : k < s.size
      · have hx : (s.extract k s.size).size = s.size - k := by rw [← bytes_len, bytes_drop, List.length_drop, bytes_len]
        have hdl : ((bytes s).drop k).length = s.size - k := by rw [List.length_drop, bytes_len]
        have hne' : (bytes s).drop k ≠ [] := fun e => by rw [e] at hdl; simp at hdl; omega
        have hpb := Un.ptL_bounds ((bytes s).drop k) hne' (fun b hb => bytes_lt s b (List.mem_of_mem_drop hb))
        have hst := Un.unitsL_step f ((bytes s).drop k) hne' (by rw [hdl]; exact hf)
        rw [List.drop_drop] at hst
        obtain ⟨c, hc0⟩ : ∃ c, (s[k]'hlt).toNat = c := ⟨_, rfl⟩
        have j0 : ∀ w, (Instr.index 9 (.string s) (.int .i64 (k : Int))).run Tryz.prog w = .ok (.int .u8 (c : Int)) w := fun w => by
          rw [run_index_string w 9 s .i64 _ Tryz.underlying9, dif_pos ⟨by omega, by omega⟩]
          rw [← hc0]
          rfl
        have hcd : ((bytes s).drop k)[0]? = some c := by
          have h1 := bytes_at s k hlt
          rw [hc0] at h1
          rw [List.getElem?_drop, Nat.add_zero, List.getElem?_eq_getElem (by rw [bytes_len]; exact hlt)] at *
          simpa using h1.symm
        have hc256 : c < 256 := bytes_lt s c (List.mem_of_mem_drop (List.mem_of_getElem? hcd))
        by_cases hcl : c < 128
        · have hp := ptL_low _ c hcd hcl
          rw [hp] at hst
          simp only at hst
          have hu1 : Un.unR c = [c] := by unfold Un.unR; rw [if_pos (by omega)]
          rw [hu1] at hst
          have HT : Hid (Un.unitsL f ((bytes s).drop k) = [c] ++ Un.unitsL (f - 1) ((bytes s).drop (k + 1))) := hst
          have hcz : (c : Int) < 128 := by omega
          have wu : IntKind.u16.wrap (c : Int) = (c : Int) := by rw [IntKind.wrap_u16]; omega
          have q3 : done.length + 1 ≤ maxLen := by unfold maxLen; omega
          have hsz := hbw.size
          clear hst hp hu1 hpb hcd hc0 hne' hdl hx
          go_wp2_with (at_builtin; refine wpList_append_own _ rfl _ _ 27 rfl w.heap.size 58 i0 (.int .u16 0) 1 2 Tryz.underlying27 hi hz0 hz1 hz2 rfl (by decide) _ _ _ rfl (hrow.alloc _) ⟨wr.heap.size, 0, none⟩ 1 1 [.int .u16 (c : Int)] rfl rfl (cells_new wr [.int .u16 (c : Int)] 58) (one_ints .u16 [(c : Int)]) q3 (by omega) (by simp; omega) ?_; intro v' w3 hown' hgrow _; obtain ⟨g', cap', rfl⟩ := ownsRow_pos (by omega) hown')
          have hb3 : Below w.heap.size w w3 := (hbw.alloc hbw.size (Obj.cells #[.int .u16 (c : Int)] 58)).grown hgrow (by have := hbw.size; simp; omega) (fun j e => (hrow.lt j e).1)
          go_roundw
          case rel => exact ⟨k + 1, f - 1, done ++ [c], g', cap', by omega, by omega, by simp; omega, by go_num, by simp, by simpa [uv] using hown', by rw [← HS.out, HT.out, List.append_assoc], hb3⟩
          case measure => simp [intOf]; omega
        clear hcd hc0
        have cP := fun W (hW : Below w.heap.size w W) => pointAt_any (s.extract k s.size) (by rw [hx]; omega) (by rw [hx]; omega) W (tabs_below hT hW)
        rw [bytes_drop] at cP
        generalize Un.ptL ((bytes s).drop k) = p at *
        obtain ⟨r, m⟩ := p
        simp only at hst hpb cP
        have hul := Un.unR_len r
        have cA := fun W (hW : W.ownsRow w.heap.size 58 1 (.slice (some ⟨g, 0, none⟩) done.length cap) done.length (done.map uv)) (hB : Below w.heap.size w W) => appendUnits_any w.heap.size (.slice (some ⟨g, 0, none⟩) done.length cap) done.length (done.map uv) r hpb.2.2 W hW (by omega) hB.size
        have HT : Hid (Un.unitsL f ((bytes s).drop k) = Un.unR r ++ Un.unitsL (f - 1) ((bytes s).drop (k + m))) := hst
        clear hst
        have hcn : ¬ ((c : Int) < 128) := by omega
        go_wp2_with (first
          | (go_at_call 133; refine (cP _ hbw).mono ?_; rintro e w2 ⟨rfl, hb2⟩; have hbw2 := hbw.trans (hb2.mono hbw.size); have hrow2 := hrow.kept (below_grown hb2) (.inr (by simp [Value.ownBlock])))
          | (go_at_call 134; refine (cA _ hrow2 hbw2).mono ?_; rintro e w3 ⟨v', rfl, hown', o, hgrow⟩; obtain ⟨g', cap', rfl⟩ := ownsRow_pos (by omega) hown'))
        have hb3 : Below w.heap.size w w3 := (hbw2.alloc hbw2.size o).grown hgrow (by have := hbw2.size; simp; omega) (fun j e => (hrow2.lt j e).1)
        go_roundw
        case rel => exact ⟨k + m, f - 1, done ++ Un.unR r, g', cap', by omega, by omega, by simp; omega, by go_num, by simp, by simpa using hown', by rw [← HS.out, HT.out, List.append_assoc], hb3⟩
        case measure => simp [intOf]; omega
      · obtain rfl : k = s.size := by omega
        go_wp2
        go_ret
        have e : done = unitsS s := by
          have := HS.out
          rw [List.drop_of_length_le (by rw [bytes_len]; exact Nat.le_refl _), Un.unitsL_nil, List.append_nil] at this
          exact this
        subst e
        exact ⟨_, rfl, hrow, ⟨fun e => by simp at e, fun e => absurd e hnz⟩, hbw⟩
end Go.Proofs.YtellndmbllmjgaaGreatDoor.Ut
/- The walks of white and of the document's own White. -/
set_option linter.unusedVariables false
namespace Go.Proofs.YtellndmbllmjgaaGreatDoor.Ut
open Go.RowKit Go.Shelf Go.Lib

/-- The table of blanks. -/
def zsT : RTab := { r16 := #[(32, 160, 128), (5760, 8192, 2432), (8193, 8202, 1), (8239, 8287, 48), (12288, 12288, 1)], r32 := #[], off := 1 }
theorem zsT_ok : RTabOk zsT := ⟨RgOk_of_B (by kernel_rfl), RgOk_of_B (by kernel_rfl), by decide, by decide, by decide, by decide⟩
/-- Is a unit white space? -/
def whiteU (u : Nat) : Bool := (u == 9 || u == 11 || u == 12 || u == 65279 || u == 10 || u == 13 || u == 8232 || u == 8233) || isGo zsT (u : Int)

set_option maxRecDepth 100000 in
theorem zs_small : ∀ u : Fin 128, isGo zsT ((u.val : Nat) : Int) = decide (u.val = 32) := by decide +kernel
theorem zs_160 : isGo zsT (160 : Int) = true := by decide +kernel

theorem beqI (u n : Nat) (m : Int) (hm : m = (n : Int)) : ((u : Int) == m) = (u == n) := by rw [Bool.eq_iff_iff]; simp; omega

set_option maxRecDepth 100000 in
set_option maxHeartbeats 4000000 in
theorem white_any (u : Nat) (hu : u < 65536) (w : World) (hZ : RVar 3 zsT w) :
    Calls Tryz.prog 91 #[.int .u16 (u : Int)] w fun e w' => e = .returned (.bool (whiteU u)) ∧ Below w.heap.size w w' := by
  obtain ⟨Tb, oT, hp, hA⟩ := hZ
  have cI := Tryz.unicode_Is_any Tb oT zsT (u : Int) w (by omega) (by omega) hA zsT_ok
  have b9 := beqI u 9 9 rfl; have b11 := beqI u 11 11 rfl; have b12 := beqI u 12 12 rfl; have bf := beqI u 65279 65279 rfl
  have b10 := beqI u 10 10 rfl; have b13 := beqI u 13 13 rfl; have b28 := beqI u 8232 8232 rfl; have b29 := beqI u 8233 8233 rfl
  have hW : Hid (whiteU u = ((u == 9 || u == 11 || u == 12 || u == 65279 || u == 10 || u == 13 || u == 8232 || u == 8233) || isGo zsT (u : Int))) := rfl
  generalize whiteU u = W at *
  generalize isGo zsT (u : Int) = G at *
  cases c9 : (u == 9)
  · rw [c9] at b9
    cases c11 : (u == 11)
    · rw [c11] at b11
      cases c12 : (u == 12)
      · rw [c12] at b12
        cases cf : (u == 65279)
        · rw [cf] at bf
          cases c10 : (u == 10)
          · rw [c10] at b10
            cases c13 : (u == 13)
            · rw [c13] at b13
              cases c28 : (u == 8232)
              · rw [c28] at b28
                cases c29 : (u == 8233)
                · rw [c29] at b29
                  have hWG : W = G := by rw [hW.out, c9, c11, c12, cf, c10, c13, c28, c29]; rfl
                  subst hWG
                  clear c9 c11 c12 cf c10 c13 c28 c29 hW
                  go_enter Tryz.func91, Tryz.ntmps91
                  go_wp2_with (first | (go_at_call 136; refine cI.mono ?_; rintro e w' ⟨rfl, hbw⟩) | go_in)
                  go_ret
                  exact ⟨rfl, hbw⟩
                · rw [c29] at b29
                  have hWG : W = true := by rw [hW.out, c29]; simp
                  subst hWG
                  clear c9 c11 c12 cf c10 c13 c28 c29 hW
                  go_enter Tryz.func91, Tryz.ntmps91
                  go_wp2
                  go_ret
                  exact ⟨rfl, Below.refl _ _⟩
              · rw [c28] at b28
                have hWG : W = true := by rw [hW.out, c28]; simp
                subst hWG
                clear c9 c11 c12 cf c10 c13 c28 hW b29
                go_enter Tryz.func91, Tryz.ntmps91
                go_wp2
                go_ret
                exact ⟨rfl, Below.refl _ _⟩
            · rw [c13] at b13
              have hWG : W = true := by rw [hW.out, c13]; simp
              subst hWG
              clear c9 c11 c12 cf c10 c13 hW b29 b28
              go_enter Tryz.func91, Tryz.ntmps91
              go_wp2
              go_ret
              exact ⟨rfl, Below.refl _ _⟩
          · rw [c10] at b10
            have hWG : W = true := by rw [hW.out, c10]; simp
            subst hWG
            clear c9 c11 c12 cf c10 hW b29 b28 b13
            go_enter Tryz.func91, Tryz.ntmps91
            go_wp2
            go_ret
            exact ⟨rfl, Below.refl _ _⟩
        · rw [cf] at bf
          have hWG : W = true := by rw [hW.out, cf]; simp
          subst hWG
          clear c9 c11 c12 cf hW b29 b28 b13 b10
          go_enter Tryz.func91, Tryz.ntmps91
          go_wp2
          go_ret
          exact ⟨rfl, Below.refl _ _⟩
      · rw [c12] at b12
        have hWG : W = true := by rw [hW.out, c12]; simp
        subst hWG
        clear c9 c11 c12 hW b29 b28 b13 b10 bf
        go_enter Tryz.func91, Tryz.ntmps91
        go_wp2
        go_ret
        exact ⟨rfl, Below.refl _ _⟩
    · rw [c11] at b11
      have hWG : W = true := by rw [hW.out, c11]; simp
      subst hWG
      clear c9 c11 hW b29 b28 b13 b10 bf b12
      go_enter Tryz.func91, Tryz.ntmps91
      go_wp2
      go_ret
      exact ⟨rfl, Below.refl _ _⟩
  · rw [c9] at b9
    have hWG : W = true := by rw [hW.out, c9]; simp
    subst hWG
    clear c9 hW b29 b28 b13 b10 bf b12 b11
    go_enter Tryz.func91, Tryz.ntmps91
    go_wp2
    go_ret
    exact ⟨rfl, Below.refl _ _⟩

end Go.Proofs.YtellndmbllmjgaaGreatDoor.Ut
/- The walks of Trim and of the document's own Trim. -/
set_option linter.unusedVariables false
namespace Go.Proofs.YtellndmbllmjgaaGreatDoor.Ut
open Go.RowKit Go.Shelf Go.Lib

theorem row16_of_owns {W : World} {base : Nat} {v : Value} {us : List Nat} (h : W.ownsRow base 58 1 v us.length (us.map uv)) : Row16 W.heap.size W v us := by
  rcases h.2 with ⟨rfl, h0⟩ | ⟨g, cap, cur, rfl, _, hgb, _⟩
  · exact .inl ⟨⟨_, _, rfl⟩, List.eq_nil_of_length_eq_zero h0⟩
  · refine .inr ⟨g, 0, cap, rfl, (h.lt g rfl).2, fun j hj => ?_⟩
    have := h.cells (g := g) rfl j (uv us[j]) (by simp [hj])
    have e : ((⟨g, 0, none⟩ : Addr).add j) = ⟨g, 0 + j, none⟩ := by
      unfold Addr.add
      split <;> simp_all
    rw [e] at this
    rw [this, List.getElem?_eq_getElem hj]
    rfl

/-- The slice value sv holds the units us; there is room for them. -/
def RowC (W : World) (sv : Value) (us : List Nat) : Prop :=
  ∃ a cap, sv = .slice a us.length cap ∧ us.length ≤ cap ∧ cap ≤ maxLen ∧ (us ≠ [] → ∃ b off, a = some ⟨b, off, none⟩ ∧ b < W.heap.size ∧ ∀ j, j < us.length → W.cell? ⟨b, off + j, none⟩ = some (.int .u16 ((us[j]?.getD 0 : Nat) : Int)))
theorem RowC.row {W : World} {sv : Value} {us : List Nat} (h : RowC W sv us) : Row16 W.heap.size W sv us := by
  obtain ⟨a, cap, rfl, h1, _, h2⟩ := h
  by_cases h0 : us = []
  · subst h0
    exact .inl ⟨⟨_, _, rfl⟩, rfl⟩
  · obtain ⟨b, off, rfl, hb, hc⟩ := h2 h0
    exact .inr ⟨b, off, cap, rfl, hb, hc⟩
theorem RowC.below {A B : World} (h : Below A.heap.size A B) {sv : Value} {us : List Nat} (hr : RowC A sv us) : RowC B sv us := by
  obtain ⟨a, cap, e, h1, hm, h2⟩ := hr
  refine ⟨a, cap, e, h1, hm, fun h0 => ?_⟩
  obtain ⟨b, off, ea, hb, hc⟩ := h2 h0
  exact ⟨b, off, ea, by have := h.size; omega, fun j hj => (h.cell (p := ⟨b, off + j, none⟩) hb).trans (hc j hj)⟩
theorem rowC_of_owns {W : World} {base : Nat} {v : Value} {us : List Nat} (h : W.ownsRow base 58 1 v us.length (us.map uv)) : RowC W v us := by
  have hr := row16_of_owns h
  rcases h.2 with ⟨rfl, h0⟩ | ⟨g, cap, cur, rfl, _, hgb, hcap, hm, _⟩
  · have e := List.eq_nil_of_length_eq_zero h0
    subst e
    exact ⟨_, _, rfl, Nat.le_refl _, by unfold maxLen; omega, fun h => absurd rfl h⟩
  · refine ⟨_, cap, rfl, hcap, hm, fun h0 => ?_⟩
    rcases hr with ⟨_, e⟩ | ⟨b, off, c, e, hb, hc⟩
    · exact absurd e h0
    · cases e
      exact ⟨_, _, rfl, hb, hc⟩
theorem addr_add (b off i : Nat) : (⟨b, off, none⟩ : Addr).add i = ⟨b, off + i, none⟩ := by
  unfold Addr.add
  split <;> simp_all
theorem RowC.sliced {W : World} {a : Option Addr} {n cap : Nat} {us : List Nat} (hr : RowC W (.slice a n cap) us) (i k : Nat) (hik : i ≤ k) (hk : k ≤ us.length) : RowC W (Go.sliced a i k cap 1) ((us.take k).drop i) := by
  obtain ⟨a', cap', e, h1, hm, h2⟩ := hr
  cases e
  have hlen : ((us.take k).drop i).length = k - i := by simp; omega
  refine ⟨if cap = i then a else a.map (·.add (i * 1)), cap - i, by rw [hlen]; rfl, by rw [hlen]; omega, by omega, fun h0 => ?_⟩
  have hki : i < k := by
    rcases Nat.lt_or_ge i k with h | h
    · exact h
    · exact absurd (List.eq_nil_of_length_eq_zero (by omega)) h0
  obtain ⟨b, off, rfl, hb, hc⟩ := h2 (fun e => by rw [e] at hk; simp at hk; omega)
  rw [if_neg (by omega)]
  refine ⟨b, off + i, by simp [addr_add], hb, fun j hj => ?_⟩
  rw [hlen] at hj
  rw [show off + i + j = off + (i + j) by omega, hc (i + j) (by omega)]
  rw [List.getElem?_drop, List.getElem?_take_of_lt (by omega)]

theorem rowC_none (W : World) (a : Option Addr) (c : Nat) (hc : c ≤ maxLen) : RowC W (.slice a 0 c) [] := ⟨a, c, rfl, Nat.zero_le _, hc, fun h => absurd rfl h⟩
theorem rowC_cut {W : World} {b off n cap : Nat} {us : List Nat} (hr : RowC W (.slice (some ⟨b, off, none⟩) n cap) us) (i k : Nat) (hik : i ≤ k) (hk : k ≤ us.length) (hc : i < cap) : RowC W (.slice (some ⟨b, off + i, none⟩) (k - i) (cap - i)) ((us.take k).drop i) := by
  have := hr.sliced i k hik hk
  have e : Go.sliced (some ⟨b, off, none⟩) i k cap 1 = .slice (some ⟨b, off + i, none⟩) (k - i) (cap - i) := by
    unfold Go.sliced
    rw [if_neg (by omega)]
    simp [addr_add]
  rwa [e] at this
/-- Without white space at the front. -/
def ltrim (us : List Nat) : List Nat := us.dropWhile whiteU
/-- Without white space at the end. -/
def rtrim (us : List Nat) : List Nat := (us.reverse.dropWhile whiteU).reverse
def trimU (us : List Nat) : List Nat := rtrim (ltrim us)
theorem rtrim_snoc (l : List Nat) (x : Nat) : rtrim (l ++ [x]) = if whiteU x = true then rtrim l else l ++ [x] := by
  unfold rtrim
  rw [List.reverse_append]
  simp only [List.reverse_cons, List.reverse_nil, List.nil_append, List.singleton_append, List.dropWhile_cons]
  split
  · rfl
  · simp
theorem drop_head (us : List Nat) (k : Nat) (h : k < us.length) : us.drop k = us[k]?.getD 0 :: us.drop (k + 1) := by
  rw [List.drop_eq_getElem_cons h, List.getElem?_eq_getElem h]
  rfl
theorem take_last (us : List Nat) (i k : Nat) (h : i < k) (hk : k ≤ us.length) : (us.take k).drop i = (us.take (k - 1)).drop i ++ [us[k - 1]?.getD 0] := by
  have h1 : k - 1 < us.length := by omega
  have e : us.take k = us.take (k - 1) ++ [us[k - 1]] := by
    have := List.take_succ_eq_append_getElem h1
    rwa [show k - 1 + 1 = k by omega] at this
  rw [e, List.drop_append_of_le_length (by simp; omega), List.getElem?_eq_getElem h1]
  rfl

theorem unitsL_len : ∀ (f : Nat) (bs : List Nat), (∀ b ∈ bs, b < 256) → (Un.unitsL f bs).length ≤ 2 * bs.length
  | 0, bs, _ => by simp [Un.unitsL]
  | f + 1, bs, hb => by
    unfold Un.unitsL
    split
    · simp
    · rename_i h
      have h1 := Un.ptL_bounds bs h hb
      have h2 := (Un.unR_len (Un.ptL bs).1).2
      have h3 := unitsL_len f (bs.drop (Un.ptL bs).2) (fun b hb' => hb b (List.mem_of_mem_drop hb'))
      rw [List.length_drop] at h3
      rw [List.length_append]
      omega
theorem unitsS_len (s : ByteArray) : (unitsS s).length ≤ 2 * s.size := by
  have := unitsL_len s.size (bytes s) (bytes_lt s)
  rwa [bytes_len] at this
theorem unitsS_lt (s : ByteArray) : ∀ u ∈ unitsS s, u < 65536 := Un.unitsL_lt s.size (bytes s) (bytes_lt s)

/-- How many elements a slice value has. -/
def sliceLen : Value → Nat
  | .slice _ n _ => n
  | _ => 0

theorem rowC_tail {W : World} {b off cap : Nat} {x : Nat} {t : List Nat} (hr : RowC W (.slice (some ⟨b, off, none⟩) (t.length + 1) cap) (x :: t)) : RowC W (.slice (if cap = 1 then some ⟨b, off, none⟩ else some ⟨b, off + 1, none⟩) t.length (cap - 1)) t := by
  have := hr.sliced 1 (t.length + 1) (by omega) (by simp)
  have e : Go.sliced (some ⟨b, off, none⟩) 1 (t.length + 1) cap 1 = .slice (if cap = 1 then some ⟨b, off, none⟩ else some ⟨b, off + 1, none⟩) t.length (cap - 1) := by
    unfold Go.sliced
    split <;> simp [addr_add]
  rw [e] at this
  simpa using this
theorem rowC_init {W : World} {b off cap n : Nat} {us : List Nat} (hr : RowC W (.slice (some ⟨b, off, none⟩) (n + 1) cap) us) (hn : us.length = n + 1) : RowC W (.slice (some ⟨b, off, none⟩) n cap) (us.take n) := by
  have := hr.sliced 0 n (by omega) (by omega)
  have e : Go.sliced (some ⟨b, off, none⟩) 0 n cap 1 = .slice (some ⟨b, off, none⟩) n cap := by
    unfold Go.sliced
    split <;> simp [addr_add]
  rw [e] at this
  simpa using this

set_option maxRecDepth 100000 in
set_option maxHeartbeats 4000000 in
theorem trim_any (s : ByteArray) (hs : s.size ≤ 100000) (w : World) (hT : Lib.Utf8Tabs 1 2 w) (hZ : RVar 3 zsT w) :
    Calls Tryz.prog 39 #[.string s] w fun e w' => e = .returned (.string (txt (trimU (unitsS s)))) ∧ Below w.heap.size w w' := by
  have cU := units_any s hs w hT
  have hul := unitsS_len s
  have hub := unitsS_lt s
  generalize unitsS s = U at *
  have HU := (show Hid _ from hub)
  clear hub
  go_enter Tryz.func39, Tryz.ntmps39
  go_wp2_with (go_at_call 90; refine cU.mono ?_; rintro e w1 ⟨v, rfl, hown, hnil, hb1⟩; clear hnil)
  go_loopw [3] (fun l wr => ∃ cur : List Nat, RowC wr l cur ∧ cur.length ≤ U.length ∧ (∀ u ∈ cur, u < 65536) ∧ cur.dropWhile whiteU = ltrim U ∧ Below w.heap.size w wr) (fun l _ => sliceLen l)
  case atStart => exact ⟨U, rowC_of_owns hown, Nat.le_refl _, HU.out, rfl, hb1⟩
  case round =>
    obtain ⟨cur, hR, hcl, hcu, hdw, hbw⟩ := hrel
    have HD := (show Hid _ from hdw)
    clear hdw hown hb1 cU
    have hR0 := hR
    obtain ⟨a, cap, rfl, hcap, hcm, hcell⟩ := hR
    unfold maxLen at hcm
    cases cur with
    | nil =>
      have hE : trimU U = [] := by
        have := HD.out
        unfold trimU
        rw [← this]
        rfl
      have HE := (show Hid _ from hE)
      clear hE hcu hcell
      simp only [List.length_nil] at hR0 hcap ⊢
      go_wp2
      go_loopw [3] (fun l w3 => ∃ cur : List Nat, RowC w3 l cur ∧ cur.length ≤ U.length ∧ (∀ u ∈ cur, u < 65536) ∧ rtrim cur = trimU U ∧ Below w.heap.size w w3) (fun l _ => sliceLen l)
      case atStart => exact ⟨[], hR0, Nat.zero_le _, by simp, HE.out.symm, hbw⟩
      case round =>
        obtain ⟨cur, hR, hcl3, hcu3, hrt, hbw3⟩ := hrel
        have HR3 := (show Hid _ from hrt)
        have cT := fun W (hW : Below wr.heap.size wr W) => text_any _ cur hcu3 (by omega) W (hR.below hW).row
        have HT := (show Hid _ from cT)
        have HC3 := (show Hid _ from hcu3)
        have hR3 := hR
        obtain ⟨a3, cap3, hl3, hcap3, hcm3, hcell3⟩ := hR
        unfold maxLen at hcm3
        clear hrt cT
        by_cases h0 : cur = []
        · subst h0
          subst hl3
          have hE : trimU U = [] := HR3.out.symm
          have HE3 := (show Hid _ from hE)
          clear hE hcell3 hcu3
          go_wp2_with (go_at_call 92; refine (HT.out _ (Below.refl _ _)).mono ?_; rintro e w4 ⟨rfl, hb4⟩)
          go_ret
          exact ⟨by rw [HE3.out]; rfl, hbw3.trans (hb4.mono hbw3.size)⟩
        · obtain ⟨n, hn⟩ : ∃ n, cur.length = n + 1 := ⟨cur.length - 1, by have := List.length_pos_iff.2 h0; omega⟩
          obtain ⟨b3, off3, rfl, hb3, hc3⟩ := hcell3 h0
          have hcy := hc3 n (by omega)
          have hy := getD_lt hcu3 n
          have htl := take_last cur 0 (n + 1) (by omega) (by omega)
          rw [List.drop_zero, List.drop_zero, show n + 1 - 1 = n by omega, List.take_of_length_le (by omega)] at htl
          have HTL := (show Hid _ from htl)
          have hin := fun W (h : Below wr.heap.size wr W) => rowC_init (n := n) (us := cur) (by have := hR3.below h; rw [hl3, hn] at this; exact this) hn
          have HIN := (show Hid _ from hin)
          have HN := (show Hid _ from hn)
          have hcu4 : ∀ u ∈ cur.take n, u < 65536 := fun u hu => hcu3 u (List.mem_of_mem_take hu)
          have HC4 := (show Hid _ from hcu4)
          have hlt4 : (cur.take n).length = n := by simp; omega
          have HL4 := (show Hid _ from hlt4)
          generalize cur[n]?.getD 0 = y at *
          have cV := white_any y hy wr (RVar_below hZ hbw3)
          rw [hn] at hl3 hcap3 hcl3
          subst hl3
          clear htl hin hcu4 hlt4 hc3 hcell3 hcu3 hn hR3 h0
          cases hwy : whiteU y
          · rw [hwy] at cV
            have hE : cur = trimU U := by
              have := HR3.out
              rw [HTL.out, rtrim_snoc, if_neg (by rw [hwy]; simp), ← HTL.out] at this
              exact this
            have HE3 := (show Hid _ from hE)
            clear hE
            go_wp2_with (first
              | (go_at_call 91; refine cV.mono ?_; rintro e w4 ⟨rfl, hb4⟩)
              | (go_at_call 92; refine (HT.out _ hb4).mono ?_; rintro e w5 ⟨rfl, hb5⟩))
            go_ret
            have hbw4 := hbw3.trans (hb4.mono hbw3.size)
            exact ⟨by rw [← HE3.out]; rfl, hbw4.trans (hb5.mono hbw4.size)⟩
          · rw [hwy] at cV
            have hE : rtrim (cur.take n) = trimU U := by
              have := HR3.out
              rw [HTL.out, rtrim_snoc, if_pos hwy] at this
              exact this
            have HE := (show Hid _ from hE)
            clear hE
            go_wp2_with (go_at_call 91; refine cV.mono ?_; rintro e w4 ⟨rfl, hb4⟩)
            have hbw4 := hbw3.trans (hb4.mono hbw3.size)
            go_roundw
            case rel => exact ⟨cur.take n, HIN.out _ hb4, by rw [HL4.out]; omega, HC4.out, HE.out, hbw4⟩
            case measure => simp [sliceLen]
    | cons x t =>
      obtain ⟨b, off, rfl, hb, hc⟩ := hcell (by simp)
      have hc0 := hc 0 (by simp)
      simp only [Nat.add_zero, List.getElem?_cons_zero, Option.getD_some] at hc0
      have hx := hcu x (by simp)
      have hcu' : ∀ u ∈ t, u < 65536 := fun u hu => hcu u (by simp [hu])
      have HC := (show Hid _ from hcu)
      have HC' := (show Hid _ from hcu')
      have cW := white_any x hx wr (RVar_below hZ hbw)
      simp only [List.length_cons] at *
      clear hc hcell hcu hcu'
      cases hwx : whiteU x
      · rw [hwx] at cW
        have hE : rtrim (x :: t) = trimU U := by
          have := HD.out
          rw [List.dropWhile_cons, hwx] at this
          unfold trimU
          rw [← this]
          rfl
        have HE := (show Hid _ from hE)
        clear hE
        go_wp2_with (go_at_call 91; refine cW.mono ?_; rintro e w2 ⟨rfl, hb2⟩)
        have hbw2 := hbw.trans (hb2.mono hbw.size)
        clear hc0 cW
        go_loopw [3] (fun l w3 => ∃ cur : List Nat, RowC w3 l cur ∧ cur.length ≤ U.length ∧ (∀ u ∈ cur, u < 65536) ∧ rtrim cur = trimU U ∧ Below w.heap.size w w3) (fun l _ => sliceLen l)
        case atStart => exact ⟨x :: t, hR0.below hb2, by simpa using hcl, HC.out, HE.out, hbw2⟩
        case round =>
          obtain ⟨cur, hR, hcl3, hcu3, hrt, hbw3⟩ := hrel
          have HR3 := (show Hid _ from hrt)
          have cT := fun W (hW : Below wr.heap.size wr W) => text_any _ cur hcu3 (by omega) W (hR.below hW).row
          have HT := (show Hid _ from cT)
          have HC3 := (show Hid _ from hcu3)
          have hR3 := hR
          obtain ⟨a3, cap3, hl3, hcap3, hcm3, hcell3⟩ := hR
          unfold maxLen at hcm3
          clear hrt cT
          by_cases h0 : cur = []
          · subst h0
            subst hl3
            have hE : trimU U = [] := HR3.out.symm
            have HE3 := (show Hid _ from hE)
            clear hE hcell3 hcu3
            go_wp2_with (go_at_call 92; refine (HT.out _ (Below.refl _ _)).mono ?_; rintro e w4 ⟨rfl, hb4⟩)
            go_ret
            exact ⟨by rw [HE3.out]; rfl, hbw3.trans (hb4.mono hbw3.size)⟩
          · obtain ⟨n, hn⟩ : ∃ n, cur.length = n + 1 := ⟨cur.length - 1, by have := List.length_pos_iff.2 h0; omega⟩
            obtain ⟨b3, off3, rfl, hb3, hc3⟩ := hcell3 h0
            have hcy := hc3 n (by omega)
            have hy := getD_lt hcu3 n
            have htl := take_last cur 0 (n + 1) (by omega) (by omega)
            rw [List.drop_zero, List.drop_zero, show n + 1 - 1 = n by omega, List.take_of_length_le (by omega)] at htl
            have HTL := (show Hid _ from htl)
            have hin := fun W (h : Below wr.heap.size wr W) => rowC_init (n := n) (us := cur) (by have := hR3.below h; rw [hl3, hn] at this; exact this) hn
            have HIN := (show Hid _ from hin)
            have HN := (show Hid _ from hn)
            have hcu4 : ∀ u ∈ cur.take n, u < 65536 := fun u hu => hcu3 u (List.mem_of_mem_take hu)
            have HC4 := (show Hid _ from hcu4)
            have hlt4 : (cur.take n).length = n := by simp; omega
            have HL4 := (show Hid _ from hlt4)
            generalize cur[n]?.getD 0 = y at *
            have cV := white_any y hy wr (RVar_below hZ hbw3)
            rw [hn] at hl3 hcap3 hcl3
            subst hl3
            clear htl hin hcu4 hlt4 hc3 hcell3 hcu3 hn hR3 h0
            cases hwy : whiteU y
            · rw [hwy] at cV
              have hE : cur = trimU U := by
                have := HR3.out
                rw [HTL.out, rtrim_snoc, if_neg (by rw [hwy]; simp), ← HTL.out] at this
                exact this
              have HE3 := (show Hid _ from hE)
              clear hE
              go_wp2_with (first
                | (go_at_call 91; refine cV.mono ?_; rintro e w4 ⟨rfl, hb4⟩)
                | (go_at_call 92; refine (HT.out _ hb4).mono ?_; rintro e w5 ⟨rfl, hb5⟩))
              go_ret
              have hbw4 := hbw3.trans (hb4.mono hbw3.size)
              exact ⟨by rw [← HE3.out]; rfl, hbw4.trans (hb5.mono hbw4.size)⟩
            · rw [hwy] at cV
              have hE : rtrim (cur.take n) = trimU U := by
                have := HR3.out
                rw [HTL.out, rtrim_snoc, if_pos hwy] at this
                exact this
              have HE := (show Hid _ from hE)
              clear hE
              go_wp2_with (go_at_call 91; refine cV.mono ?_; rintro e w4 ⟨rfl, hb4⟩)
              have hbw4 := hbw3.trans (hb4.mono hbw3.size)
              go_roundw
              case rel => exact ⟨cur.take n, HIN.out _ hb4, by rw [HL4.out]; omega, HC4.out, HE.out, hbw4⟩
              case measure => simp [sliceLen]
      · rw [hwx] at cW
        have hnx : t.dropWhile whiteU = ltrim U := by
          have := HD.out
          rw [List.dropWhile_cons, hwx] at this
          exact this
        have HX := (show Hid _ from hnx)
        have hRt := fun W (h : Below wr.heap.size wr W) => rowC_tail (hR0.below h)
        have HR := (show Hid _ from hRt)
        clear hnx hRt
        by_cases hc1 : cap = 1
        · subst hc1
          obtain rfl : t = [] := List.eq_nil_of_length_eq_zero (by omega)
          go_wp2_with (go_at_call 91; refine cW.mono ?_; rintro e w2 ⟨rfl, hb2⟩)
          have hbw2 := hbw.trans (hb2.mono hbw.size)
          go_roundw
          case rel => exact ⟨[], by have := HR.out _ hb2; simpa using this, Nat.zero_le _, HC'.out, HX.out, hbw2⟩
          case measure => simp [sliceLen]
        · go_wp2_with (go_at_call 91; refine cW.mono ?_; rintro e w2 ⟨rfl, hb2⟩)
          have hbw2 := hbw.trans (hb2.mono hbw.size)
          go_roundw
          case rel => exact ⟨t, by have := HR.out _ hb2; simpa [hc1] using this, by omega, HC'.out, HX.out, hbw2⟩
          case measure => simp [sliceLen]
end Go.Proofs.YtellndmbllmjgaaGreatDoor.Ut
