/- The walks of pointAt, appendUnits and Units. -/
import Derived.Test.YtellndmbllmjgaaGreatDoorCUt3x
import Derived.Test.YtellndmbllmjgaaGreatDoorCSlx
import Derived.Deep.QuietTactic
import Derived.BigQuiet
import Derived.Test.YtellndmbllmjgaaGreatDoorCAe1x
import Derived.Test.YtellndmbllmjgaaGreatDoorCWk2x
import Derived.Test.YtellndmbllmjgaaGreatDoorCUp2x
import Derived.OwnWalk
import Derived.Deep.RegionWith
set_option linter.unusedVariables false
namespace Go.Proofs.YtellndmbllmjgaaGreatDoor.Ut
open Go.RowKit Go.Shelf

/-- The bytes of a text. -/
def bytes (s : ByteArray) : List Nat := s.data.toList.map UInt8.toNat
theorem bytes_len (s : ByteArray) : (bytes s).length = s.size := by rw [bytes, List.length_map, ← Lib.size_eq]
theorem bytes_lt (s : ByteArray) : ∀ b ∈ bytes s, b < 256 := by
  intro b hb
  obtain ⟨x, _, rfl⟩ := List.mem_map.1 hb
  exact x.toNat_lt
theorem bytes_get (s : ByteArray) (k : Nat) : (s.get! k).toNat = (bytes s)[k]?.getD 0 := by
  by_cases h : k < s.size
  · rw [Utf8W.get!_of_lt s k h]
    have h' : k < s.data.toList.length := by rw [← Lib.size_eq]; exact h
    simp only [bytes, List.getElem?_map, List.getElem?_eq_getElem h', Option.map_some, Option.getD_some]
    rfl
  · have h' : ¬ k < (bytes s).length := by rw [bytes_len]; exact h
    rw [List.getElem?_eq_none (by omega)]
    cases s with
    | mk d =>
      have : ¬ k < d.size := h
      simp [ByteArray.get!, this]
      rfl
theorem decodeGo_eq (s : ByteArray) (h : s.size ≠ 0) : Lib.decodeGo s = Lib.decodeN (bytes s).length ((bytes s)[0]?.getD 0) ((bytes s)[1]?.getD 0) ((bytes s)[2]?.getD 0) ((bytes s)[3]?.getD 0) := by
  rw [Lib.decodeGo, if_neg h, Lib.decode_at, bytes_get, bytes_get, bytes_get, bytes_get, bytes_len]
  rfl
theorem bytes_at (s : ByteArray) (k : Nat) (h : k < s.size) : (s[k]'h).toNat = (bytes s)[k]?.getD 0 := by
  rw [← bytes_get, Utf8W.get!_of_lt s k h]
theorem bytes_drop (s : ByteArray) (k : Nat) : bytes (s.extract k s.size) = (bytes s).drop k := by
  rw [bytes, Lib.extract_to_end, bytes, List.map_drop]

set_option maxRecDepth 100000 in
theorem and224 : ∀ x : Fin 256, (bits .and .u8 ((x.val : Nat) : Int) 224 == 160) = decide (x.val / 32 = 5) := by decide +kernel
set_option maxRecDepth 100000 in
theorem and192 : ∀ x : Fin 256, (bits .and .u8 ((x.val : Nat) : Int) 192 == 128) = decide (x.val / 64 = 2) := by decide +kernel
theorem and224' (x : Nat) (h : x < 256) : (bits .and .u8 (x : Int) 224 == 160) = decide (x / 32 = 5) := and224 ⟨x, h⟩
theorem and192' (x : Nat) (h : x < 256) : (bits .and .u8 (x : Int) 192 == 128) = decide (x / 64 = 2) := and192 ⟨x, h⟩
theorem or_half (x y : Int) (h0 : 0 ≤ x) (h1 : x < 32) (h2 : 0 ≤ y) (h3 : y < 64) : bits .or .i32 (bits .or .i32 55296 (x * 64)) y = 55296 + x * 64 + y := by
  rw [bits_join .i32 31 (by decide) wraps_i32 11 55296 (x * 64) (by decide) (by decide) (by decide) (by omega) (by omega) (by omega)]
  rw [bits_join .i32 31 (by decide) wraps_i32 6 (55296 + x * 64) y (by omega) (by omega) (by omega) (by omega) (by omega) (by omega)]

set_option maxHeartbeats 1000000 in
set_option maxRecDepth 100000 in
/-- **pointAt, at every text that is not empty.** -/
theorem pointAt_any (s : ByteArray) (h0 : s.size ≠ 0) (hs : s.size ≤ 100000) (w : World) (hT : Lib.Utf8Tabs 1 2 w) :
    Calls Tryz.prog 133 #[.string s] w fun e w' => e = .returned (.tuple #[.int .i32 ((Un.ptL (bytes s)).1 : Nat), .int .i64 ((Un.ptL (bytes s)).2 : Nat)]) ∧ Below w.heap.size w w' := by
  have cD := Tryz.utf8_DecodeRuneInString s w hT
  have e1 := decodeGo_eq s h0
  have hb0 := Un.getD_byte (bytes_lt s) 0
  have hb1 := Un.getD_byte (bytes_lt s) 1
  have hb2 := Un.getD_byte (bytes_lt s) 2
  have ha0 := bytes_at s 0
  have ha1 := bytes_at s 1
  have ha2 := bytes_at s 2
  have hl := bytes_len s
  have hr := Un.decodeN_bounds (bytes s).length ((bytes s)[0]?.getD 0) ((bytes s)[1]?.getD 0) ((bytes s)[2]?.getD 0) ((bytes s)[3]?.getD 0) (by omega) hb0
  unfold Un.ptL
  rw [e1] at cD
  clear e1
  generalize (bytes s)[0]?.getD 0 = x0 at *
  generalize (bytes s)[1]?.getD 0 = x1 at *
  generalize (bytes s)[2]?.getD 0 = x2 at *
  generalize (bytes s)[3]?.getD 0 = x3 at *
  rw [hl] at *
  clear hl
  have hP : Un.pointN s.size x0 x1 x2 x3 = if Lib.decodeN s.size x0 x1 x2 x3 = (65533, 1) ∧ 3 ≤ s.size ∧ x0 = 237 ∧ x1 / 32 = 5 ∧ x2 / 64 = 2 then (55296 + x1 % 32 * 64 + x2 % 64, 3) else Lib.decodeN s.size x0 x1 x2 x3 := rfl
  generalize Un.pointN s.size x0 x1 x2 x3 = pp at *
  generalize Lib.decodeN s.size x0 x1 x2 x3 = dd at *
  obtain ⟨r, m⟩ := dd
  simp only [Prod.mk.injEq] at hP hr cD
  have HP : Hid (pp = if (r = 65533 ∧ m = 1) ∧ 3 ≤ s.size ∧ x0 = 237 ∧ x1 / 32 = 5 ∧ x2 / 64 = 2 then (55296 + x1 % 32 * 64 + x2 % 64, 3) else (r, m)) := hP
  clear hP
  have t1 : ((r : Int) == 65533) = decide (r = 65533) := by rw [Bool.eq_iff_iff]; simp; omega
  have t2 : ((m : Int) == 1) = decide (m = 1) := by rw [Bool.eq_iff_iff]; simp; omega
  have t4 : ((x0 : Int) == 237) = decide (x0 = 237) := by rw [Bool.eq_iff_iff]; simp; omega
  have t5 := and224' x1 hb1
  have t6 := and192' x2 hb2
  have hcase : (r = 65533 ∧ m = 1 ∧ 3 ≤ s.size ∧ x0 = 237 ∧ x1 / 32 = 5 ∧ x2 / 64 = 2) ∨ (r ≠ 65533) ∨ (r = 65533 ∧ m ≠ 1) ∨ (r = 65533 ∧ m = 1 ∧ ¬ 3 ≤ s.size) ∨ (r = 65533 ∧ m = 1 ∧ 3 ≤ s.size ∧ x0 ≠ 237) ∨ (r = 65533 ∧ m = 1 ∧ 3 ≤ s.size ∧ x0 = 237 ∧ ¬ x1 / 32 = 5) ∨ (r = 65533 ∧ m = 1 ∧ 3 ≤ s.size ∧ x0 = 237 ∧ x1 / 32 = 5 ∧ ¬ x2 / 64 = 2) := by omega
  rcases hcase with ⟨c1, c2, c3, c4, c5, c6⟩ | c1 | ⟨c1, c2⟩ | ⟨c1, c2, c3⟩ | ⟨c1, c2, c3, c4⟩ | ⟨c1, c2, c3, c4, c5⟩ | ⟨c1, c2, c3, c4, c5, c6⟩
  · have hpp : pp = (55296 + x1 % 32 * 64 + x2 % 64, 3) := by rw [HP.out, if_pos ⟨⟨c1, c2⟩, c3, c4, c5, c6⟩]
    subst hpp
    clear HP
    replace ha0 := ha0 (by omega)
    replace ha1 := ha1 (by omega)
    replace ha2 := ha2 (by omega)
    rw [decide_eq_true c1] at t1
    rw [decide_eq_true c2] at t2
    rw [decide_eq_true c4] at t4
    rw [decide_eq_true c5] at t5
    rw [decide_eq_true c6] at t6
    have o1 := u8_and31 (x := (x1 : Int)) (by omega) (by omega)
    have o2 := u8_and63 (x := (x2 : Int)) (by omega) (by omega)
    have o3 := or_half ((x1 : Int) % 32) ((x2 : Int) % 64) (by omega) (by omega) (by omega) (by omega)
    have k1 : (1 : Int) < (s.size : Int) := by omega
    have k2 : (2 : Int) < (s.size : Int) := by omega
    have k3 : (3 : Int) ≤ (s.size : Int) := by omega
    have k0 : (0 : Int) < (s.size : Int) := by omega
    have CC : Hid (r = 65533 ∧ m = 1 ∧ x0 = 237) := ⟨c1, c2, c4⟩
    clear c1 c2 c4 c5 c6 hT
    go_enter Tryz.func133, Tryz.ntmps133
    go_wp2_with (go_at_call 38; refine cD.mono ?_; rintro e w' ⟨rfl, hbw⟩)
    go_region
    go_wp2
    go_ret2
    exact ⟨by simp, hbw.drew⟩
  · have hpp : pp = (r, m) := by rw [HP.out, if_neg (fun h => c1 h.1.1)]
    subst hpp
    clear HP
    rw [decide_eq_false c1] at t1
    clear t2 t4 t5 t6 ha0 ha1 ha2 c1 hT
    go_enter Tryz.func133, Tryz.ntmps133
    go_wp2_with (go_at_call 38; refine cD.mono ?_; rintro e w' ⟨rfl, hbw⟩)
    go_ret2
    exact ⟨rfl, hbw⟩
  · have hpp : pp = (r, m) := by rw [HP.out, if_neg (fun h => c2 h.1.2)]
    subst hpp
    clear HP
    rw [decide_eq_true c1] at t1
    rw [decide_eq_false c2] at t2
    clear t4 t5 t6 ha0 ha1 ha2 c1 c2 hT
    go_enter Tryz.func133, Tryz.ntmps133
    go_wp2_with (go_at_call 38; refine cD.mono ?_; rintro e w' ⟨rfl, hbw⟩)
    go_ret2
    exact ⟨rfl, hbw⟩
  · have hpp : pp = (r, m) := by rw [HP.out, if_neg (fun h => c3 h.2.1)]
    subst hpp
    clear HP
    rw [decide_eq_true c1] at t1
    rw [decide_eq_true c2] at t2
    have k3 : ¬ (3 : Int) ≤ (s.size : Int) := by omega
    clear t4 t5 t6 ha0 ha1 ha2 c1 c2 c3 hT
    go_enter Tryz.func133, Tryz.ntmps133
    go_wp2_with (go_at_call 38; refine cD.mono ?_; rintro e w' ⟨rfl, hbw⟩)
    go_ret2
    exact ⟨rfl, hbw⟩
  · have hpp : pp = (r, m) := by rw [HP.out, if_neg (fun h => c4 h.2.2.1)]
    subst hpp
    clear HP
    rw [decide_eq_true c1] at t1
    rw [decide_eq_true c2] at t2
    rw [decide_eq_false c4] at t4
    have k3 : (3 : Int) ≤ (s.size : Int) := by omega
    have k0 : (0 : Int) < (s.size : Int) := by omega
    replace ha0 := ha0 (by omega)
    clear t5 t6 ha1 ha2 c1 c2 c4 hT
    go_enter Tryz.func133, Tryz.ntmps133
    go_wp2_with (go_at_call 38; refine cD.mono ?_; rintro e w' ⟨rfl, hbw⟩)
    go_ret2
    exact ⟨rfl, hbw⟩
  · have hpp : pp = (r, m) := by rw [HP.out, if_neg (fun h => c5 h.2.2.2.1)]
    subst hpp
    clear HP
    rw [decide_eq_true c1] at t1
    rw [decide_eq_true c2] at t2
    rw [decide_eq_true c4] at t4
    rw [decide_eq_false c5] at t5
    have k3 : (3 : Int) ≤ (s.size : Int) := by omega
    have k0 : (0 : Int) < (s.size : Int) := by omega
    have k1 : (1 : Int) < (s.size : Int) := by omega
    replace ha0 := ha0 (by omega)
    replace ha1 := ha1 (by omega)
    clear t6 ha2 c1 c2 c4 c5 hT
    go_enter Tryz.func133, Tryz.ntmps133
    go_wp2_with (go_at_call 38; refine cD.mono ?_; rintro e w' ⟨rfl, hbw⟩)
    go_ret2
    exact ⟨rfl, hbw⟩
  · have hpp : pp = (r, m) := by rw [HP.out, if_neg (fun h => c6 h.2.2.2.2)]
    subst hpp
    clear HP
    rw [decide_eq_true c1] at t1
    rw [decide_eq_true c2] at t2
    rw [decide_eq_true c4] at t4
    rw [decide_eq_true c5] at t5
    rw [decide_eq_false c6] at t6
    have k3 : (3 : Int) ≤ (s.size : Int) := by omega
    have k0 : (0 : Int) < (s.size : Int) := by omega
    have k1 : (1 : Int) < (s.size : Int) := by omega
    have k2 : (2 : Int) < (s.size : Int) := by omega
    replace ha0 := ha0 (by omega)
    replace ha1 := ha1 (by omega)
    replace ha2 := ha2 (by omega)
    clear c1 c2 c4 c5 c6 hT
    go_enter Tryz.func133, Tryz.ntmps133
    go_wp2_with (go_at_call 38; refine cD.mono ?_; rintro e w' ⟨rfl, hbw⟩)
    go_ret2
    exact ⟨rfl, hbw⟩

/-- A unit as a cell. -/
def uv (u : Nat) : Value := .int .u16 (u : Int)
theorem i32_and1023 (x : Int) (h0 : 0 ≤ x) (h1 : x < 2147483648) : bits .and .i32 x 1023 = x % 1024 := bits_mask .i32 31 (by decide) wraps_i32 10 (by decide) x h0 h1

set_option maxHeartbeats 1000000 in
set_option maxRecDepth 100000 in
theorem appU_one (B : Nat) (v : Value) (n : Nat) (xs : List Value) (r : Int) (h0 : 0 ≤ r) (h1 : r < 65536) (w : World) (hown : w.ownsRow B 58 1 v n xs) (hlen : n + 4 ≤ 1000000) (hBw : B ≤ w.heap.size) :
    Calls Tryz.prog 134 #[v, .int .i32 r] w fun e w' => ∃ v', e = .returned v' ∧ w'.ownsRow B 58 1 v' (n + 1) (xs ++ [.int .u16 r]) ∧ ∃ o, (w.alloc o).grownBy w' v.ownBlock := by
  obtain ⟨i0, hi, hz0, hz1, hz2⟩ := info_parts info24
  have q3 : n + 1 ≤ maxLen := by unfold maxLen; omega
  go_enter Tryz.func134, Tryz.ntmps134
  go_wp2_with (at_builtin; refine wpList_append_own _ rfl _ _ 27 rfl B 58 i0 (.int .u16 0) 1 2 Tryz.underlying27 hi hz0 hz1 hz2 rfl (by decide) _ _ _ rfl (hown.alloc _) ⟨w.heap.size, 0, none⟩ 1 1 [.int .u16 r] rfl rfl (cells_new w [.int .u16 r] 58) (one_ints .u16 [r]) q3 (by omega) (by simp; omega) ?_; intro v' w2 hown' hgrow _)
  go_ret
  exact ⟨_, rfl, hown', _, hgrow⟩

set_option maxHeartbeats 1000000 in
set_option maxRecDepth 100000 in
theorem appU_two (B : Nat) (v : Value) (n : Nat) (xs : List Value) (r : Int) (h0 : 65536 ≤ r) (h1 : r ≤ 1114111) (w : World) (hown : w.ownsRow B 58 1 v n xs) (hlen : n + 4 ≤ 1000000) (hBw : B ≤ w.heap.size) :
    Calls Tryz.prog 134 #[v, .int .i32 r] w fun e w' => ∃ v', e = .returned v' ∧ w'.ownsRow B 58 1 v' (n + 2) (xs ++ [.int .u16 (55296 + (r - 65536) / 1024), .int .u16 (56320 + (r - 65536) % 1024)]) ∧ ∃ o, (w.alloc o).grownBy w' v.ownBlock := by
  obtain ⟨i0, hi, hz0, hz1, hz2⟩ := info_parts info24
  have q3 : n + 2 ≤ maxLen := by unfold maxLen; omega
  have b1 := i32_and1023 (r - 65536) (by omega) (by omega)
  go_enter Tryz.func134, Tryz.ntmps134
  go_wp2_with (at_builtin; refine wpList_append_own _ rfl _ _ 27 rfl B 58 i0 (.int .u16 0) 1 2 Tryz.underlying27 hi hz0 hz1 hz2 rfl (by decide) _ _ _ rfl (hown.alloc _) ⟨w.heap.size, 0, none⟩ 2 2 [.int .u16 (55296 + (r - 65536) / 1024), .int .u16 (56320 + (r - 65536) % 1024)] rfl rfl (cells_new w [.int .u16 (55296 + (r - 65536) / 1024), .int .u16 (56320 + (r - 65536) % 1024)] 58) (one_ints .u16 [55296 + (r - 65536) / 1024, 56320 + (r - 65536) % 1024]) q3 (by omega) (by simp; omega) ?_; intro v' w2 hown' hgrow _)
  go_ret
  exact ⟨_, rfl, hown', _, hgrow⟩

/-- **appendUnits, at every code point and every half.** -/
theorem appendUnits_any (B : Nat) (v : Value) (n : Nat) (xs : List Value) (r : Nat) (hr : r ≤ 1114111) (w : World) (hown : w.ownsRow B 58 1 v n xs) (hlen : n + 4 ≤ 1000000) (hBw : B ≤ w.heap.size) :
    Calls Tryz.prog 134 #[v, .int .i32 (r : Int)] w fun e w' => ∃ v', e = .returned v' ∧ w'.ownsRow B 58 1 v' (n + (Un.unR r).length) (xs ++ (Un.unR r).map uv) ∧ ∃ o, (w.alloc o).grownBy w' v.ownBlock := by
  unfold Un.unR
  by_cases h1 : r < 65536
  · rw [if_pos h1]
    exact appU_one B v n xs r (by omega) (by omega) w hown hlen hBw
  · rw [if_neg h1]
    have e1 : ((55296 + (r - 65536) / 1024 : Nat) : Int) = 55296 + ((r : Int) - 65536) / 1024 := by omega
    have e2 : ((56320 + (r - 65536) % 1024 : Nat) : Int) = 56320 + ((r : Int) - 65536) % 1024 := by omega
    have := appU_two B v n xs r (by omega) (by omega) w hown hlen hBw
    rw [← e1, ← e2] at this
    exact this
end Go.Proofs.YtellndmbllmjgaaGreatDoor.Ut
/- The walk of Units: the units of a text. -/
set_option linter.unusedVariables false
namespace Go.Proofs.YtellndmbllmjgaaGreatDoor.Ut
open Go.RowKit Go.Shelf

theorem cell_block_lt {w : World} {a : Addr} {v : Value} (h : w.cell? a = some v) : a.block < w.heap.size := World.block_lt_of_cell? w a h
theorem tabs_below {w w' : World} (hT : Lib.Utf8Tabs 1 2 w) (hb : Below w.heap.size w w') : Lib.Utf8Tabs 1 2 w' := by
  have h1 : 1 < w.heap.size := cell_block_lt (hT.1 0 (by omega))
  have h2 : 2 < w.heap.size := cell_block_lt (hT.2 0 (by omega)).1
  exact ⟨fun c hc => (hb.cell (p := ⟨1, c, none⟩) h1).trans (hT.1 c hc), fun i hi => ⟨(hb.cell (p := ⟨2, 2 * i, none⟩) h2).trans (hT.2 i hi).1, (hb.cell (p := ⟨2, 2 * i + 1, none⟩) h2).trans (hT.2 i hi).2⟩⟩

theorem below_grown {w w' : World} (h : Below w.heap.size w w') : w.grownBy w' none := ⟨h.os, h.tape, h.output, h.size, fun k hk _ => h.block k hk⟩

/-- The units of a text. -/
def unitsS (s : ByteArray) : List Nat := Un.unitsL s.size (bytes s)

theorem unitsS_ne (s : ByteArray) (h : s.size ≠ 0) : unitsS s ≠ [] := by
  have hne : bytes s ≠ [] := fun e => h (by rw [← bytes_len, e]; rfl)
  unfold unitsS
  rw [Un.unitsL_step s.size (bytes s) hne (by rw [bytes_len]; exact Nat.le_refl _)]
  intro e
  have h1 := (Un.unR_len (Un.ptL (bytes s)).1).1
  have h2 := congrArg List.length e
  rw [List.length_append] at h2
  simp only [List.length_nil] at h2
  omega

theorem ptL_low (bs : List Nat) (c : Nat) (h : bs[0]? = some c) (hc : c < 128) : Un.ptL bs = (c, 1) := by
  have hn : 1 ≤ bs.length := by cases bs with | nil => simp at h | cons _ _ => simp
  have hd : ∀ b1 b2 b3, Lib.decodeN bs.length c b1 b2 b3 = (c, 1) := by
    intro b1 b2 b3
    unfold Lib.decodeN
    repeat' split
    all_goals first | rfl | omega | (simp; omega)
  unfold Un.ptL Un.pointN
  rw [h]
  simp only [Option.getD_some]
  rw [hd, if_neg (by intro h2; omega)]
set_option maxRecDepth 100000 in
set_option maxHeartbeats 2000000 in
theorem units_any (s : ByteArray) (hs : s.size ≤ 100000) (w : World) (hT : Lib.Utf8Tabs 1 2 w) :
    Calls Tryz.prog 90 #[.string s] w fun e w' => ∃ v, e = .returned v ∧ w'.ownsRow w.heap.size 58 1 v (unitsS s).length ((unitsS s).map uv) ∧ (v = .slice none 0 0 ↔ unitsS s = []) ∧ Below w.heap.size w w' := by
  obtain ⟨i0, hi, hz0, hz1, hz2⟩ := info_parts info24
  by_cases h0 : s.size = 0
  · have hne : s.toList.isEmpty = true := by
      rw [Lib.toList_data]
      have : s.data.toList = [] := List.eq_nil_of_length_eq_zero (by rw [← Lib.size_eq]; exact h0)
      rw [this]; rfl
    have hu : unitsS s = [] := by simp [unitsS, h0, Un.unitsL]
    rw [hu]
    go_enter Tryz.func90, Tryz.ntmps90
    go_wp2
    go_ret
    exact ⟨_, rfl, World.ownsRow_nil _ _ _ _, by simp, Below.refl _ _⟩
  · have hne : s.toList.isEmpty = false := by
      rw [Lib.toList_data]
      cases h : s.data.toList with
      | nil => exact absurd (by rw [Lib.size_eq, h]; rfl) h0
      | cons _ _ => rfl
    go_enter Tryz.func90, Tryz.ntmps90
    go_wp2_with (at_make; refine wpList_make_own _ rfl _ _ 27 rfl w.heap.size 58 i0 (.int .u16 0) 1 Tryz.underlying27 hi hz0 hz1 .i64 .i64 _ s.size rfl rfl rfl (by rw [hz2]; omega) (by unfold maxLen; omega) (Nat.le_refl _) ?_; intro w1 hown0 hg0)
    have hb1 : Below w.heap.size w w1 := (Below.refl _ w).grown hg0 (Nat.le_refl _) (fun k e => by cases e)
    have hnz := unitsS_ne s h0
    go_loopw [3, 4] (fun l i wr => ∃ (k f : Nat) (done : List Nat) (g cap : Nat), k ≤ s.size ∧ s.size - k ≤ f ∧ done.length ≤ 2 * k ∧ i = .int .i64 k ∧ l = .slice (some ⟨g, 0, none⟩) done.length cap ∧ wr.ownsRow w.heap.size 58 1 (.slice (some ⟨g, 0, none⟩) done.length cap) done.length (done.map uv) ∧ done ++ Un.unitsL f ((bytes s).drop k) = unitsS s ∧ Below w.heap.size w wr)
      (fun _ i _ => s.size - (intOf i).toNat)
    case atStart => exact ⟨0, s.size, [], _, _, Nat.zero_le _, Nat.sub_le _ _, Nat.le_refl _, rfl, rfl, hown0, rfl, hb1⟩
    case round =>
      obtain ⟨k, f, done, g, cap, hk, hf, hd, rfl, rfl, hrow, hsum, hbw⟩ := hrel
      have HS : Hid (done ++ Un.unitsL f ((bytes s).drop k) = unitsS s) := hsum
      clear hsum
      by_cases hlt : k < s.size
      · have hx : (s.extract k s.size).size = s.size - k := by rw [← bytes_len, bytes_drop, List.length_drop, bytes_len]
        have hdl : ((bytes s).drop k).length = s.size - k := by rw [List.length_drop, bytes_len]
        have hne' : (bytes s).drop k ≠ [] := fun e => by rw [e] at hdl; simp at hdl; omega
        have hpb := Un.ptL_bounds ((bytes s).drop k) hne' (fun b hb => bytes_lt s b (List.mem_of_mem_drop hb))
        have hst := Un.unitsL_step f ((bytes s).drop k) hne' (by rw [hdl]; exact hf)
        rw [List.drop_drop] at hst
        obtain ⟨c, hc0⟩ : ∃ c, (s[k]'hlt).toNat = c := ⟨_, rfl⟩
        have j0 : ∀ w, (Instr.index 9 (.string s) (.int .i64 (k : Int))).run Tryz.prog w = .ok (.int .u8 (c : Int)) w := fun w => by
          rw [run_index_string w 9 s .i64 _ Tryz.underlying9, dif_pos ⟨by omega, by omega⟩]
          rw [← hc0]
          rfl
        have hcd : ((bytes s).drop k)[0]? = some c := by
          have h1 := bytes_at s k hlt
          rw [hc0] at h1
          rw [List.getElem?_drop, Nat.add_zero, List.getElem?_eq_getElem (by rw [bytes_len]; exact hlt)] at *
          simpa using h1.symm
        have hc256 : c < 256 := bytes_lt s c (List.mem_of_mem_drop (List.mem_of_getElem? hcd))
        by_cases hcl : c < 128
        · have hp := ptL_low _ c hcd hcl
          rw [hp] at hst
          simp only at hst
          have hu1 : Un.unR c = [c] := by unfold Un.unR; rw [if_pos (by omega)]
          rw [hu1] at hst
          have HT : Hid (Un.unitsL f ((bytes s).drop k) = [c] ++ Un.unitsL (f - 1) ((bytes s).drop (k + 1))) := hst
          have hcz : (c : Int) < 128 := by omega
          have wu : IntKind.u16.wrap (c : Int) = (c : Int) := by rw [IntKind.wrap_u16]; omega
          have q3 : done.length + 1 ≤ maxLen := by unfold maxLen; omega
          have hsz := hbw.size
          clear hst hp hu1 hpb hcd hc0 hne' hdl hx
          go_wp2_with (at_builtin; refine wpList_append_own _ rfl _ _ 27 rfl w.heap.size 58 i0 (.int .u16 0) 1 2 Tryz.underlying27 hi hz0 hz1 hz2 rfl (by decide) _ _ _ rfl (hrow.alloc _) ⟨wr.heap.size, 0, none⟩ 1 1 [.int .u16 (c : Int)] rfl rfl (cells_new wr [.int .u16 (c : Int)] 58) (one_ints .u16 [(c : Int)]) q3 (by omega) (by simp; omega) ?_; intro v' w3 hown' hgrow _; obtain ⟨g', cap', rfl⟩ := ownsRow_pos (by omega) hown')
          have hb3 : Below w.heap.size w w3 := (hbw.alloc hbw.size (Obj.cells #[.int .u16 (c : Int)] 58)).grown hgrow (by have := hbw.size; simp; omega) (fun j e => (hrow.lt j e).1)
          go_roundw
          case rel => exact ⟨k + 1, f - 1, done ++ [c], g', cap', by omega, by omega, by simp; omega, by go_num, by simp, by simpa [uv] using hown', by rw [← HS.out, HT.out, List.append_assoc], hb3⟩
          case measure => simp [intOf]; omega
        clear hcd hc0
        have cP := fun W (hW : Below w.heap.size w W) => pointAt_any (s.extract k s.size) (by rw [hx]; omega) (by rw [hx]; omega) W (tabs_below hT hW)
        rw [bytes_drop] at cP
        generalize Un.ptL ((bytes s).drop k) = p at *
        obtain ⟨r, m⟩ := p
        simp only at hst hpb cP
        have hul := Un.unR_len r
        have cA := fun W (hW : W.ownsRow w.heap.size 58 1 (.slice (some ⟨g, 0, none⟩) done.length cap) done.length (done.map uv)) (hB : Below w.heap.size w W) => appendUnits_any w.heap.size (.slice (some ⟨g, 0, none⟩) done.length cap) done.length (done.map uv) r hpb.2.2 W hW (by omega) hB.size
        have HT : Hid (Un.unitsL f ((bytes s).drop k) = Un.unR r ++ Un.unitsL (f - 1) ((bytes s).drop (k + m))) := hst
        clear hst
        have hcn : ¬ ((c : Int) < 128) := by omega
        go_wp2_with (first
          | (go_at_call 133; refine (cP _ hbw).mono ?_; rintro e w2 ⟨rfl, hb2⟩; have hbw2 := hbw.trans (hb2.mono hbw.size); have hrow2 := hrow.kept (below_grown hb2) (.inr (by simp [Value.ownBlock])))
          | (go_at_call 134; refine (cA _ hrow2 hbw2).mono ?_; rintro e w3 ⟨v', rfl, hown', o, hgrow⟩; obtain ⟨g', cap', rfl⟩ := ownsRow_pos (by omega) hown'))
        have hb3 : Below w.heap.size w w3 := (hbw2.alloc hbw2.size o).grown hgrow (by have := hbw2.size; simp; omega) (fun j e => (hrow2.lt j e).1)
        go_roundw
        case rel => exact ⟨k + m, f - 1, done ++ Un.unR r, g', cap', by omega, by omega, by simp; omega, by go_num, by simp, by simpa using hown', by rw [← HS.out, HT.out, List.append_assoc], hb3⟩
        case measure => simp [intOf]; omega
      · obtain rfl : k = s.size := by omega
        go_wp2
        go_ret
        have e : done = unitsS s := by
          have := HS.out
          rw [List.drop_of_length_le (by rw [bytes_len]; exact Nat.le_refl _), Un.unitsL_nil, List.append_nil] at this
          exact this
        subst e
        exact ⟨_, rfl, hrow, ⟨fun e => by simp at e, fun e => absurd e hnz⟩, hbw⟩
end Go.Proofs.YtellndmbllmjgaaGreatDoor.Ut
/- The walks of digit and run, at any byte, to any base. -/
set_option linter.unusedVariables false
namespace Go.Proofs.YtellndmbllmjgaaGreatDoor
open Go.RowKit Go.Shelf Go.Sort Fs Fl

/-- What a byte counts as a digit; 36: none. -/
def digV (c : Nat) : Nat := if 48 ≤ c ∧ c < 58 then c - 48 else if 97 ≤ c ∧ c < 123 then c - 87 else if 65 ≤ c ∧ c < 91 then c - 55 else 36
theorem digV_le (c : Nat) : digV c ≤ 36 := by unfold digV; split <;> (try omega); split <;> (try omega); split <;> omega
set_option maxRecDepth 100000 in
theorem digit_any (c : Nat) (h : c < 256) (w : World) : Calls Tryz.prog 95 #[.int .u8 (c : Int)] w fun e w' => e = .returned (.int .i64 (digV c : Int)) ∧ w' = w := by
  obtain ⟨v, hv⟩ : ∃ v, v = digV c := ⟨_, rfl⟩
  rw [← hv]
  unfold digV at hv
  rcases (by omega : c < 48 ∨ (48 ≤ c ∧ c < 58) ∨ (58 ≤ c ∧ c < 65) ∨ (65 ≤ c ∧ c < 91) ∨ (91 ≤ c ∧ c < 97) ∨ (97 ≤ c ∧ c < 123) ∨ 123 ≤ c) with h1 | h1 | h1 | h1 | h1 | h1 | h1
  · rw [if_neg (by omega), if_neg (by omega), if_neg (by omega)] at hv
    have k1 : ¬ (48 : Int) ≤ (c : Int) := by omega
    have k2 : ¬ (97 : Int) ≤ (c : Int) := by omega
    have k3 : ¬ (65 : Int) ≤ (c : Int) := by omega
    subst hv
    go_enter Tryz.func95, Tryz.ntmps95
    go_wp2
    go_ret
    exact ⟨rfl, rfl⟩
  · rw [if_pos h1] at hv
    have k1 : (c : Int) - 48 = (v : Int) := by omega
    obtain ⟨a1, a2⟩ := h1
    clear hv
    go_enter Tryz.func95, Tryz.ntmps95
    go_wp2
    go_ret
    exact ⟨by rw [← k1]; rfl, rfl⟩
  · rw [if_neg (by omega), if_neg (by omega), if_neg (by omega)] at hv
    have k1 : ¬ (c : Int) ≤ 57 := by omega
    have k2 : ¬ (97 : Int) ≤ (c : Int) := by omega
    have k3 : ¬ (65 : Int) ≤ (c : Int) := by omega
    subst hv
    go_enter Tryz.func95, Tryz.ntmps95
    go_wp2
    go_ret
    exact ⟨rfl, rfl⟩
  · rw [if_neg (by omega), if_neg (by omega), if_pos h1] at hv
    have k1 : ¬ (c : Int) ≤ 57 := by omega
    have k2 : ¬ (97 : Int) ≤ (c : Int) := by omega
    have k3 : (65 : Int) ≤ (c : Int) := by omega
    have k4 : (c : Int) ≤ 90 := by omega
    have k5 : (c : Int) - 65 + 10 = (v : Int) := by omega
    clear hv h1
    go_enter Tryz.func95, Tryz.ntmps95
    go_wp2
    go_ret
    exact ⟨by rw [← k5]; rfl, rfl⟩
  · rw [if_neg (by omega), if_neg (by omega), if_neg (by omega)] at hv
    have k1 : ¬ (c : Int) ≤ 57 := by omega
    have k2 : ¬ (97 : Int) ≤ (c : Int) := by omega
    have k3 : ¬ (c : Int) ≤ 90 := by omega
    subst hv
    go_enter Tryz.func95, Tryz.ntmps95
    go_wp2
    go_ret
    exact ⟨rfl, rfl⟩
  · rw [if_neg (by omega), if_pos h1] at hv
    have k1 : ¬ (c : Int) ≤ 57 := by omega
    have k2 : (97 : Int) ≤ (c : Int) := by omega
    have k4 : (c : Int) ≤ 122 := by omega
    have k5 : (c : Int) - 97 + 10 = (v : Int) := by omega
    clear hv h1
    go_enter Tryz.func95, Tryz.ntmps95
    go_wp2
    go_ret
    exact ⟨by rw [← k5]; rfl, rfl⟩
  · rw [if_neg (by omega), if_neg (by omega), if_neg (by omega)] at hv
    have k1 : ¬ (c : Int) ≤ 57 := by omega
    have k2 : ¬ (c : Int) ≤ 122 := by omega
    have k3 : ¬ (c : Int) ≤ 90 := by omega
    subst hv
    go_enter Tryz.func95, Tryz.ntmps95
    go_wp2
    go_ret
    exact ⟨rfl, rfl⟩
/-- How many digits to the base stand at the front. -/
def runL (b : Nat) (l : List Nat) : Nat := (l.takeWhile (fun c => decide (digV c < b))).length
theorem runL_le (b : Nat) (l : List Nat) : runL b l ≤ l.length := by
  unfold runL
  exact (List.takeWhile_prefix _).length_le
theorem runL_in (b : Nat) : ∀ (l : List Nat) (k : Nat), k < runL b l → ∃ c, l[k]? = some c ∧ digV c < b
  | [], k, h => by simp [runL] at h
  | c :: l, k, h => by
    unfold runL at h
    rw [List.takeWhile_cons] at h
    by_cases hc : digV c < b
    · simp only [hc, decide_true, if_true, List.length_cons] at h
      cases k with
      | zero => exact ⟨c, rfl, hc⟩
      | succ k =>
        obtain ⟨x, h1, h2⟩ := runL_in b l k (by unfold runL; omega)
        exact ⟨x, by simpa using h1, h2⟩
    · simp [hc] at h
theorem runL_end (b : Nat) : ∀ (l : List Nat) (c : Nat), l[runL b l]? = some c → ¬ digV c < b
  | [], c, h => by simp at h
  | x :: l, c, h => by
    unfold runL at h
    rw [List.takeWhile_cons] at h
    by_cases hx : digV x < b
    · simp only [hx, decide_true, if_true, List.length_cons, List.getElem?_cons_succ] at h
      exact runL_end b l c (by unfold runL; exact h)
    · simp [hx] at h
      subst h; exact hx
set_option maxRecDepth 100000 in
set_option maxHeartbeats 1000000 in
/-- run, to any base. -/
theorem run_any (S : ByteArray) (b : Nat) (hb : b ≤ 36) (hs : S.size ≤ 100000) (w : World) :
    Calls Tryz.prog 54 #[.string S, .int .i64 (b : Int)] w fun e w' => e = .returned (.int .i64 (runL b (Ut.bytes S) : Int)) ∧ w' = w := by
  obtain ⟨r, hr⟩ : ∃ r, r = runL b (Ut.bytes S) := ⟨_, rfl⟩
  have HR : Hid (r = runL b (Ut.bytes S)) := hr
  rw [← hr]
  obtain ⟨N, hN⟩ : ∃ N, S.size = N := ⟨_, rfl⟩
  have hl := runL_le b (Ut.bytes S)
  rw [Ut.bytes_len, ← hr, hN] at hl
  rw [hN] at hs
  clear hr
  go_enter Tryz.func54, Tryz.ntmps54
  go_wp2
  go_loopw [8] (fun vi wr => ∃ k : Nat, k ≤ r ∧ vi = .int .i64 (k : Int) ∧ wr = w) (fun vi _ => N - (intOf vi).toNat)
  case atStart => exact ⟨0, Nat.zero_le _, rfl, rfl⟩
  case round =>
    obtain ⟨k, hk, rfl, rfl⟩ := hrel
    rcases Nat.lt_or_ge k N with hkN | hkN
    · have hkS : k < S.size := by omega
      obtain ⟨c, hc⟩ : ∃ c, (S[k]'hkS).toNat = c := ⟨_, rfl⟩
      have hcb : c < 256 := by rw [← hc]; exact UInt8.toNat_lt _
      have hget : (Ut.bytes S)[k]? = some c := by
        have := Ut.bytes_at S k hkS
        rw [hc] at this
        have h2 : k < (Ut.bytes S).length := by rw [Ut.bytes_len]; exact hkS
        rw [List.getElem?_eq_getElem h2] at this ⊢
        simp at this
        rw [this]
      have cd := digit_any c hcb
      have hle := digV_le c
      obtain ⟨d, hd⟩ : ∃ d, d = digV c := ⟨_, rfl⟩
      rw [← hd] at cd hle
      rcases Nat.lt_or_eq_of_le hk with hlt | heq
      · obtain ⟨c', h1, h2⟩ := runL_in b (Ut.bytes S) k (by rw [← HR.out]; exact hlt)
        rw [hget] at h1
        have e : c = c' := by injection h1
        rw [← e, ← hd] at h2
        have k1 : ¬ (b : Int) ≤ (d : Int) := by omega
        clear hget h1 h2 hd e
        go_wp2_with (first | (go_at_call 95; refine (cd _).mono ?_; rintro e w1 ⟨rfl, rfl⟩))
        exact ⟨⟨k + 1, hlt, by simp, trivial⟩, by simp [intOf]; omega⟩
      · have h2 := runL_end b (Ut.bytes S) c (by rw [← HR.out, ← heq]; exact hget)
        rw [← hd] at h2
        have k1 : (b : Int) ≤ (d : Int) := by omega
        have HK : Hid (k = r) := heq
        clear hget h2 hd heq hk
        go_wp2_with (first | (go_at_call 95; refine (cd _).mono ?_; rintro e w1 ⟨rfl, rfl⟩))
        go_ret
        exact ⟨by rw [← HK.out]; rfl, rfl⟩
    · have hkn : k = N := by omega
      have HK : Hid (N = r) := by show N = r; omega
      subst hkn
      clear hk hkN
      go_wp2
      go_ret
      exact ⟨by rw [← HK.out]; rfl, rfl⟩
end Go.Proofs.YtellndmbllmjgaaGreatDoor
/- The document's whole numbers: digits to the base 65536; cut. -/
set_option linter.unusedVariables false
namespace Go.Proofs.YtellndmbllmjgaaGreatDoor
open Go.RowKit Go.Shelf Go.Sort Fs Fl

/-- What a row of digits counts. -/
def val : List Nat → Nat
  | [] => 0
  | d :: l => d + 65536 * val l
theorem val_append : ∀ (a b : List Nat), val (a ++ b) = val a + 65536 ^ a.length * val b
  | [], b => by simp [val]
  | d :: a, b => by
    rw [List.cons_append, val, val, val_append a b, List.length_cons, Nat.pow_succ]
    grind
theorem val_zero : ∀ (l : List Nat), (∀ d ∈ l, d = 0) → val l = 0
  | [], _ => rfl
  | d :: l, h => by
    rw [val, h d (by simp), val_zero l (fun x hx => h x (by simp [hx]))]
/-- Digits that are a slice of the program's. -/
def Row32 (w : World) (v : Value) (l : List Nat) : Prop :=
  ((∃ a c, v = .slice a 0 c ∧ c ≤ 9223372036854775807) ∧ l = []) ∨ ∃ b off cap, v = .slice (some ⟨b, off, none⟩) l.length cap ∧ (l.length ≤ cap ∧ cap ≤ 9223372036854775807) ∧ b < w.heap.size ∧ ∀ j, j < l.length → w.cell? ⟨b, off + j, none⟩ = some (.int .u32 ((l[j]?.getD 0 : Nat) : Int))
theorem Row32.below {A B : World} (h : Below A.heap.size A B) {v : Value} {l : List Nat} : Row32 A v l → Row32 B v l
  | .inl e => .inl e
  | .inr ⟨b, off, cap, e, hc, hb, hcell⟩ => .inr ⟨b, off, cap, e, hc, Nat.lt_of_lt_of_le hb h.size, fun j hj => (h.cell (p := ⟨b, off + j, none⟩) hb).trans (hcell j hj)⟩
theorem Row32.slice {w : World} {v : Value} {l : List Nat} : Row32 w v l → ∃ a c, v = .slice a l.length c
  | .inl ⟨⟨a, c, e, _⟩, hl⟩ => ⟨a, c, by rw [e, hl]; rfl⟩
  | .inr ⟨b, off, cap, e, _⟩ => ⟨_, _, e⟩
theorem Row32.take {w : World} {v : Value} {l : List Nat} {b off cap k : Nat} (hv : v = .slice (some ⟨b, off, none⟩) l.length cap) (hc : l.length ≤ cap ∧ cap ≤ 9223372036854775807) (hb : b < w.heap.size) (hcell : ∀ j, j < l.length → w.cell? ⟨b, off + j, none⟩ = some (.int .u32 ((l[j]?.getD 0 : Nat) : Int))) (hk : k ≤ l.length) :
    Row32 w (.slice (some ⟨b, off, none⟩) k cap) (l.take k) := by
  have hlen : (l.take k).length = k := by rw [List.length_take]; omega
  refine .inr ⟨b, off, cap, by rw [hlen], ⟨by omega, hc.2⟩, hb, fun j hj => ?_⟩
  rw [hlen] at hj
  rw [hcell j (by omega), List.getElem?_take_of_lt hj]
set_option maxRecDepth 100000 in
set_option maxHeartbeats 1000000 in
theorem cut_row (l : List Nat) (b off cap : Nat) (hl : l.length ≤ 1000000) (hcap : l.length ≤ cap) (hcm : cap ≤ 9223372036854775807) (w : World) (hb : b < w.heap.size) (hcell : ∀ j, j < l.length → w.cell? ⟨b, off + j, none⟩ = some (.int .u32 ((l[j]?.getD 0 : Nat) : Int))) :
    Calls Tryz.prog 117 #[.slice (some ⟨b, off, none⟩) l.length cap] w fun e w' => ∃ k, k ≤ l.length ∧ (∀ j, k ≤ j → l[j]?.getD 0 = 0) ∧ (0 < k → l[k - 1]?.getD 0 ≠ 0) ∧ e = .returned (.slice (some ⟨b, off, none⟩) k cap) ∧ w' = w := by
  go_enter Tryz.func117, Tryz.ntmps117
  go_wp2
  go_loopw [3] (fun v wr => ∃ k : Nat, k ≤ l.length ∧ (∀ j, k ≤ j → l[j]?.getD 0 = 0) ∧ v = .int .i64 (k : Int) ∧ wr = w) (fun v _ => (RowKit.intOf v).toNat)
  case atStart => exact ⟨l.length, Nat.le_refl _, fun j hj => by rw [List.getElem?_eq_none hj]; rfl, rfl, rfl⟩
  case round =>
    obtain ⟨k, hk, hz, rfl, rfl⟩ := hrel
    have HZ : Hid (∀ j, k ≤ j → l[j]?.getD 0 = 0) := hz
    clear hz
    rcases Nat.eq_zero_or_pos k with h0 | h0
    · subst h0
      go_wp2
      go_ret
      exact ⟨0, Nat.zero_le _, HZ.out, fun h => absurd h (by omega), rfl, rfl⟩
    · obtain ⟨j, rfl⟩ : ∃ j, k = j + 1 := ⟨k - 1, by omega⟩
      have hc := hcell j (by omega)
      have HC : Hid (∀ j, j < l.length → wr.cell? ⟨b, off + j, none⟩ = some (.int .u32 ((l[j]?.getD 0 : Nat) : Int))) := hcell
      clear hcell
      obtain ⟨g, hg⟩ : ∃ g, g = l[j]?.getD 0 := ⟨_, rfl⟩
      rw [← hg] at hc
      have HG : Hid (g = l[j]?.getD 0) := hg
      clear hg
      by_cases hg0 : g = 0
      · have HG0 : Hid (l[j]?.getD 0 = 0) := by rw [← HG.out]; exact hg0
        subst hg0
        go_wp2
        go_roundw
        case rel => exact ⟨j, by omega, fun i hi => by rcases Nat.eq_or_lt_of_le hi with e | e; (· rw [← e]; exact HG0.out); (· exact HZ.out i e), by go_num, trivial⟩
        case measure => simp [RowKit.intOf]
      · have t1 : ((g : Int) == 0) = false := by rw [beq_eq_false_iff_ne]; omega
        go_wp2
        go_ret
        exact ⟨j + 1, hk, HZ.out, fun _ => by rw [Nat.add_sub_cancel, ← HG.out]; exact hg0, rfl, rfl⟩
/-- Digits without noughts at the end. -/
def Ok (l : List Nat) : Prop := (∀ d ∈ l, d < 65536) ∧ (0 < l.length → l[l.length - 1]?.getD 0 ≠ 0)
/-- A whole number of the program's. -/
def NatIs (w : World) (v : Value) (x : Nat) : Prop := ∃ l, Row32 w v l ∧ Ok l ∧ val l = x
theorem NatIs.below {A B : World} (h : Below A.heap.size A B) {v : Value} {x : Nat} : NatIs A v x → NatIs B v x
  | ⟨l, h1, h2, h3⟩ => ⟨l, h1.below h, h2, h3⟩
theorem take_zero (l : List Nat) (k : Nat) (h : ∀ j, k ≤ j → l[j]?.getD 0 = 0) : val (l.take k) = val l := by
  have e : l = l.take k ++ l.drop k := (List.take_append_drop k l).symm
  have h0 : val (l.drop k) = 0 := val_zero _ (fun d hd => by
    obtain ⟨j, hj, rfl⟩ := List.mem_iff_getElem.1 hd
    have := h (k + j) (by omega)
    rw [List.getElem_drop]
    rw [List.length_drop] at hj
    rw [List.getElem?_eq_getElem (by omega)] at this
    exact this)
  have := val_append (l.take k) (l.drop k)
  rw [List.take_append_drop, h0, Nat.mul_zero, Nat.add_zero] at this
  exact this.symm
/-- **cut.** -/
theorem cut_any (l : List Nat) (v : Value) (hl : l.length ≤ 1000000) (hd : ∀ d ∈ l, d < 65536) (w : World) (hv : Row32 w v l) :
    Calls Tryz.prog 117 #[v] w fun e w' => ∃ v', e = .returned v' ∧ NatIs w v' (val l) ∧ w' = w := by
  rcases hv with ⟨⟨a, c, rfl, hcc⟩, rfl⟩ | ⟨b, off, cap, rfl, hc, hb, hcell⟩
  · go_enter Tryz.func117, Tryz.ntmps117
    go_wp2
    refine wp_loop_once ?_
    go_wp2
    go_ret
    exact ⟨_, rfl, ⟨[], .inl ⟨⟨a, c, rfl, hcc⟩, rfl⟩, ⟨by simp, by simp⟩, rfl⟩, rfl⟩
  · refine (cut_row l b off cap hl hc.1 hc.2 w hb hcell).mono ?_
    rintro e w' ⟨k, hk, hz, hlast, rfl, rfl⟩
    refine ⟨_, rfl, ⟨l.take k, Row32.take rfl hc hb hcell hk, ⟨fun d h => hd d (List.mem_of_mem_take h), ?_⟩, take_zero l k hz⟩, rfl⟩
    have hlen : (l.take k).length = k := by rw [List.length_take]; omega
    rw [hlen]
    intro h0
    rw [List.getElem?_take_of_lt (by omega)]
    exact hlast h0
end Go.Proofs.YtellndmbllmjgaaGreatDoor
/- Digits go in behind; Nat. -/
set_option linter.unusedVariables false
namespace Go.Proofs.YtellndmbllmjgaaGreatDoor
open Go.RowKit Go.Shelf Go.Sort Fs Fl

theorem info108 : (Tryz.prog.info? 108).map (fun i => (i.zero, i.size, i.bytes)) = some (some (.int .u32 0), 1, 4) := by kernel_rfl
def dv (d : Nat) : Value := .int .u32 (d : Int)
section
variable {ops : Array Oper} {rest : List Oper} {o : Oper} {a : Act} {Q : Exit → Act → World → Prop}
theorem app32 (hgd : o.guard = none) (s x : Operand) (ho : o.op = .call { callee := .builtin .append, args := #[s, x], argTypes := #[53, 53] })
    (base n : Nat) (v : Value) (xs : List Value) (w0 w : World) (z : Int) (hown : w.ownsRow base 108 1 v n xs) (hs : a.eval s = v) (hx : a.eval x = .slice (some ⟨w.heap.size, 0, none⟩) 1 1)
    (hn : n + 1 ≤ 1000000) (hb : base ≤ w0.heap.size) (hbw : Below base w0 w)
    (h : ∀ v' w', w'.ownsRow base 108 1 v' (n + 1) (xs ++ [.int .u32 z]) → Below base w0 w' → wpList Tryz.prog ops Q rest (a.put o.dst v') w') :
    wpList Tryz.prog ops Q (o :: rest) a (w.alloc (.cells #[.int .u32 z] 108)) := by
  obtain ⟨i0, hi, hz0, hz1, hz2⟩ := info_parts info108
  have hsz := hbw.size
  have hb1 := hbw.alloc (Nat.le_trans hb hbw.size) (Obj.cells #[.int .u32 z] 108)
  have hown1 := hown.alloc (Obj.cells #[.int .u32 z] 108)
  refine wpList_append_own _ hgd s x 53 ho base 108 i0 (.int .u32 0) 1 4 Tryz.underlying53 hi hz0 hz1 hz2 rfl (by decide) v n xs hs hown1 ⟨w.heap.size, 0, none⟩ 1 1 [.int .u32 z] hx rfl (cells_new w [.int .u32 z] 108) (one_ints .u32 [z]) (max_small hn) (by omega) (by simp; omega) ?_
  intro v' w' hown' hgrow _
  exact h v' w' hown' (hb1.grown hgrow (by simp; omega) (fun j e => (hown1.lt j e).1))
end
theorem row_owns {w : World} {base n : Nat} {v : Value} {l : List Nat} (h : w.ownsRow base 108 1 v n (l.map dv)) : Row32 w v l := by
  have hn : n = l.length := by have := h.1; rw [List.length_map] at this; omega
  subst hn
  rcases h.2 with ⟨rfl, h0⟩ | ⟨g, cap, cur, rfl, _, hg, hle, hcap, hsz, htk⟩
  · exact .inl ⟨⟨none, 0, rfl, by omega⟩, List.eq_nil_of_length_eq_zero h0⟩
  · refine .inr ⟨g, 0, cap, rfl, ⟨hle, by unfold maxLen at hcap; exact hcap⟩, lt_of_get hg, fun j hj => ?_⟩
    simp only [World.cell?, hg]
    have h1 : (cur.toList.take (l.length * 1))[j]? = (l.map dv)[j]? := by rw [htk]
    rw [List.getElem?_take_of_lt (by omega), List.getElem?_map, List.getElem?_eq_getElem hj] at h1
    rw [List.getElem?_eq_getElem hj]
    simpa [dv] using h1
set_option maxRecDepth 100000 in
set_option maxHeartbeats 1000000 in
theorem nat_any (x : Nat) (hx : x < 18446744073709551616) (w : World) :
    Calls Tryz.prog 32 #[.int .u64 (x : Int)] w fun e w' => ∃ v, e = .returned v ∧ NatIs w' v x ∧ Below w.heap.size w w' := by
  go_enter Tryz.func32, Tryz.ntmps32
  go_wp2
  go_loopw [0, 3] (fun v0 out wr => ∃ (y : Nat) (done : List Nat), v0 = .int .u64 (y : Int) ∧ y < 18446744073709551616 ∧ wr.ownsRow w.heap.size 108 1 out done.length (done.map dv) ∧ (∀ d ∈ done, d < 65536) ∧ val done + 65536 ^ done.length * y = x ∧ (y = 0 → Ok done) ∧ Below w.heap.size w wr) (fun v0 _ _ => (RowKit.intOf v0).toNat)
  case atStart => exact ⟨x, [], rfl, hx, World.ownsRow_nil _ _ _ _, by simp, by simp [val], fun _ => ⟨by simp, by simp⟩, Below.refl _ _⟩
  case round =>
    obtain ⟨y, done, rfl, hy, hown, hlt, hval, hok, hbw⟩ := hrel
    have HV : Hid (val done + 65536 ^ done.length * y = x) := hval
    have HO : Hid (y = 0 → Ok done) := hok
    have HL : Hid (∀ d ∈ done, d < 65536) := hlt
    clear hval hok hlt
    rcases Nat.eq_zero_or_pos y with h0 | h0
    · have HO' := HO.out h0
      subst h0
      go_wp2
      go_ret
      refine ⟨_, rfl, ⟨done, row_owns hown, HO', ?_⟩, hbw⟩
      have := HV.out
      omega
    · have hlen : done.length < 4 := by
        rcases Nat.lt_or_ge done.length 4 with h | h
        · exact h
        · exfalso
          have h1 : 65536 ^ 4 ≤ 65536 ^ done.length := Nat.pow_le_pow_right (by omega) h
          have h2 : 65536 ^ done.length * 1 ≤ 65536 ^ done.length * y := Nat.mul_le_mul_left _ h0
          have := HV.out
          omega
      obtain ⟨d, hd⟩ : ∃ d, d = y % 65536 := ⟨_, rfl⟩
      obtain ⟨q, hq⟩ : ∃ q, q = y / 65536 := ⟨_, rfl⟩
      have hb0 : w.heap.size ≤ w.heap.size := Nat.le_refl _
      have e1 : (y : Int) % 65536 = (d : Int) := by omega
      have e2 : (y : Int) / 65536 = (q : Int) := by omega
      have e3 : IntKind.u32.wrap (d : Int) = (d : Int) := by rw [IntKind.wrap_u32]; omega
      have hd2 : d < 65536 := by omega
      have HD : Hid (y = d + 65536 * q) := (by omega : y = d + 65536 * q)
      clear hd hq
      go_wp2_with (first | (at_builtin; refine app32 rfl _ _ rfl w.heap.size _ _ _ w _ _ hown rfl rfl (by omega) hb0 hbw ?_; intro v' w2 hown' hbw'))
      have hq0 : q < y := by have := HD.out; omega
      refine ⟨⟨q, done ++ [d], rfl, by omega, ?_, ?_, ?_, ?_, hbw'⟩, ?_⟩
      · rw [List.length_append, List.map_append]
        exact hown'
      · intro z hz
        rcases List.mem_append.1 hz with h | h
        · exact HL.out z h
        · rw [List.mem_singleton.1 h]
          exact hd2
      · rw [val_append, List.length_append, List.length_singleton, Nat.pow_succ, ← HV.out, HD.out]
        simp only [val]
        grind
      · intro hq
        refine ⟨?_, ?_⟩
        · intro z hz
          rcases List.mem_append.1 hz with h | h
          · exact HL.out z h
          · rw [List.mem_singleton.1 h]
            exact hd2
        · intro _
          rw [List.length_append, List.length_singleton, Nat.add_sub_cancel, List.getElem?_append_right (Nat.le_refl _), Nat.sub_self]
          have := HD.out
          simp
          omega
      · simp [RowKit.intOf]
        exact hq0
end Go.Proofs.YtellndmbllmjgaaGreatDoor
