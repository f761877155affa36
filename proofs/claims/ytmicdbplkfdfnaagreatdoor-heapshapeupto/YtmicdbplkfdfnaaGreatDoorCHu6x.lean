/- The walks of pointAt, appendUnits and Units. -/
import Derived.Test.YtmicdbplkfdfnaaGreatDoorCHu3x
import Derived.Test.YtmicdbplkfdfnaaGreatDoorCHuS
import Derived.Deep.QuietTactic
import Derived.BigQuiet
import Derived.Test.YtmicdbplkfdfnaaGreatDoorCFxWx
set_option linter.unusedVariables false
namespace Go.Proofs.YtmicdbplkfdfnaaGreatDoor
open Go.RowKit Go.Shelf

/-- The bytes of a text. -/
def bytes (s : ByteArray) : List Nat := s.data.toList.map UInt8.toNat
theorem bytes_len (s : ByteArray) : (bytes s).length = s.size := by rw [bytes, List.length_map, ← Lib.size_eq]
theorem bytes_lt (s : ByteArray) : ∀ b ∈ bytes s, b < 256 := by
  intro b hb
  obtain ⟨x, _, rfl⟩ := List.mem_map.1 hb
  exact x.toNat_lt
theorem bytes_get (s : ByteArray) (k : Nat) : (s.get! k).toNat = (bytes s)[k]?.getD 0 := by
  by_cases h : k < s.size
  · rw [Utf8W.get!_of_lt s k h]
    have h' : k < s.data.toList.length := by rw [← Lib.size_eq]; exact h
    simp only [bytes, List.getElem?_map, List.getElem?_eq_getElem h', Option.map_some, Option.getD_some]
    rfl
  · have h' : ¬ k < (bytes s).length := by rw [bytes_len]; exact h
    rw [List.getElem?_eq_none (by omega)]
    cases s with
    | mk d =>
      have : ¬ k < d.size := h
      simp [ByteArray.get!, this]
      rfl
theorem decodeGo_eq (s : ByteArray) (h : s.size ≠ 0) : Lib.decodeGo s = Lib.decodeN (bytes s).length ((bytes s)[0]?.getD 0) ((bytes s)[1]?.getD 0) ((bytes s)[2]?.getD 0) ((bytes s)[3]?.getD 0) := by
  rw [Lib.decodeGo, if_neg h, Lib.decode_at, bytes_get, bytes_get, bytes_get, bytes_get, bytes_len]
  rfl
theorem bytes_at (s : ByteArray) (k : Nat) (h : k < s.size) : (s[k]'h).toNat = (bytes s)[k]?.getD 0 := by
  rw [← bytes_get, Utf8W.get!_of_lt s k h]
theorem bytes_drop (s : ByteArray) (k : Nat) : bytes (s.extract k s.size) = (bytes s).drop k := by
  rw [bytes, Lib.extract_to_end, bytes, List.map_drop]

set_option maxRecDepth 100000 in
theorem and224 : ∀ x : Fin 256, (bits .and .u8 ((x.val : Nat) : Int) 224 == 160) = decide (x.val / 32 = 5) := by decide +kernel
set_option maxRecDepth 100000 in
theorem and192 : ∀ x : Fin 256, (bits .and .u8 ((x.val : Nat) : Int) 192 == 128) = decide (x.val / 64 = 2) := by decide +kernel
theorem and224' (x : Nat) (h : x < 256) : (bits .and .u8 (x : Int) 224 == 160) = decide (x / 32 = 5) := and224 ⟨x, h⟩
theorem and192' (x : Nat) (h : x < 256) : (bits .and .u8 (x : Int) 192 == 128) = decide (x / 64 = 2) := and192 ⟨x, h⟩
theorem or_half (x y : Int) (h0 : 0 ≤ x) (h1 : x < 32) (h2 : 0 ≤ y) (h3 : y < 64) : bits .or .i32 (bits .or .i32 55296 (x * 64)) y = 55296 + x * 64 + y := by
  rw [bits_join .i32 31 (by decide) wraps_i32 11 55296 (x * 64) (by decide) (by decide) (by decide) (by omega) (by omega) (by omega)]
  rw [bits_join .i32 31 (by decide) wraps_i32 6 (55296 + x * 64) y (by omega) (by omega) (by omega) (by omega) (by omega) (by omega)]

set_option maxHeartbeats 1000000 in
set_option maxRecDepth 100000 in
/-- **pointAt, at every text that is not empty.** -/
theorem pointAt_any (s : ByteArray) (h0 : s.size ≠ 0) (hs : s.size ≤ 2000000) (w : World) (hT : Lib.Utf8Tabs 2 3 w) :
    Calls Tryz.prog 109 #[.string s] w fun e w' => e = .returned (.tuple #[.int .i32 ((Un.ptL (bytes s)).1 : Nat), .int .i64 ((Un.ptL (bytes s)).2 : Nat)]) ∧ Below w.heap.size w w' := by
  have cD := Tryz.utf8_DecodeRuneInString s w hT
  have e1 := decodeGo_eq s h0
  have hb0 := Un.getD_byte (bytes_lt s) 0
  have hb1 := Un.getD_byte (bytes_lt s) 1
  have hb2 := Un.getD_byte (bytes_lt s) 2
  have ha0 := bytes_at s 0
  have ha1 := bytes_at s 1
  have ha2 := bytes_at s 2
  have hl := bytes_len s
  have hr := Un.decodeN_bounds (bytes s).length ((bytes s)[0]?.getD 0) ((bytes s)[1]?.getD 0) ((bytes s)[2]?.getD 0) ((bytes s)[3]?.getD 0) (by omega) hb0
  unfold Un.ptL
  rw [e1] at cD
  clear e1
  generalize (bytes s)[0]?.getD 0 = x0 at *
  generalize (bytes s)[1]?.getD 0 = x1 at *
  generalize (bytes s)[2]?.getD 0 = x2 at *
  generalize (bytes s)[3]?.getD 0 = x3 at *
  rw [hl] at *
  clear hl
  have hP : Un.pointN s.size x0 x1 x2 x3 = if Lib.decodeN s.size x0 x1 x2 x3 = (65533, 1) ∧ 3 ≤ s.size ∧ x0 = 237 ∧ x1 / 32 = 5 ∧ x2 / 64 = 2 then (55296 + x1 % 32 * 64 + x2 % 64, 3) else Lib.decodeN s.size x0 x1 x2 x3 := rfl
  generalize Un.pointN s.size x0 x1 x2 x3 = pp at *
  generalize Lib.decodeN s.size x0 x1 x2 x3 = dd at *
  obtain ⟨r, m⟩ := dd
  simp only [Prod.mk.injEq] at hP hr cD
  have HP : Hid (pp = if (r = 65533 ∧ m = 1) ∧ 3 ≤ s.size ∧ x0 = 237 ∧ x1 / 32 = 5 ∧ x2 / 64 = 2 then (55296 + x1 % 32 * 64 + x2 % 64, 3) else (r, m)) := hP
  clear hP
  have t1 : ((r : Int) == 65533) = decide (r = 65533) := by rw [Bool.eq_iff_iff]; simp; omega
  have t2 : ((m : Int) == 1) = decide (m = 1) := by rw [Bool.eq_iff_iff]; simp; omega
  have t4 : ((x0 : Int) == 237) = decide (x0 = 237) := by rw [Bool.eq_iff_iff]; simp; omega
  have t5 := and224' x1 hb1
  have t6 := and192' x2 hb2
  have hcase : (r = 65533 ∧ m = 1 ∧ 3 ≤ s.size ∧ x0 = 237 ∧ x1 / 32 = 5 ∧ x2 / 64 = 2) ∨ (r ≠ 65533) ∨ (r = 65533 ∧ m ≠ 1) ∨ (r = 65533 ∧ m = 1 ∧ ¬ 3 ≤ s.size) ∨ (r = 65533 ∧ m = 1 ∧ 3 ≤ s.size ∧ x0 ≠ 237) ∨ (r = 65533 ∧ m = 1 ∧ 3 ≤ s.size ∧ x0 = 237 ∧ ¬ x1 / 32 = 5) ∨ (r = 65533 ∧ m = 1 ∧ 3 ≤ s.size ∧ x0 = 237 ∧ x1 / 32 = 5 ∧ ¬ x2 / 64 = 2) := by omega
  rcases hcase with ⟨c1, c2, c3, c4, c5, c6⟩ | c1 | ⟨c1, c2⟩ | ⟨c1, c2, c3⟩ | ⟨c1, c2, c3, c4⟩ | ⟨c1, c2, c3, c4, c5⟩ | ⟨c1, c2, c3, c4, c5, c6⟩
  · have hpp : pp = (55296 + x1 % 32 * 64 + x2 % 64, 3) := by rw [HP.out, if_pos ⟨⟨c1, c2⟩, c3, c4, c5, c6⟩]
    subst hpp
    clear HP
    replace ha0 := ha0 (by omega)
    replace ha1 := ha1 (by omega)
    replace ha2 := ha2 (by omega)
    rw [decide_eq_true c1] at t1
    rw [decide_eq_true c2] at t2
    rw [decide_eq_true c4] at t4
    rw [decide_eq_true c5] at t5
    rw [decide_eq_true c6] at t6
    have o1 := u8_and31 (x := (x1 : Int)) (by omega) (by omega)
    have o2 := u8_and63 (x := (x2 : Int)) (by omega) (by omega)
    have o3 := or_half ((x1 : Int) % 32) ((x2 : Int) % 64) (by omega) (by omega) (by omega) (by omega)
    have k1 : (1 : Int) < (s.size : Int) := by omega
    have k2 : (2 : Int) < (s.size : Int) := by omega
    have k3 : (3 : Int) ≤ (s.size : Int) := by omega
    have k0 : (0 : Int) < (s.size : Int) := by omega
    have CC : Hid (r = 65533 ∧ m = 1 ∧ x0 = 237) := ⟨c1, c2, c4⟩
    clear c1 c2 c4 c5 c6 hT
    go_enter Tryz.func109, Tryz.ntmps109
    go_wp2_with (go_at_call 58; refine cD.mono ?_; rintro e w' ⟨rfl, hbw⟩)
    go_region
    go_wp2
    go_ret2
    exact ⟨by simp, hbw.drew⟩
  · have hpp : pp = (r, m) := by rw [HP.out, if_neg (fun h => c1 h.1.1)]
    subst hpp
    clear HP
    rw [decide_eq_false c1] at t1
    clear t2 t4 t5 t6 ha0 ha1 ha2 c1 hT
    go_enter Tryz.func109, Tryz.ntmps109
    go_wp2_with (go_at_call 58; refine cD.mono ?_; rintro e w' ⟨rfl, hbw⟩)
    go_ret2
    exact ⟨rfl, hbw⟩
  · have hpp : pp = (r, m) := by rw [HP.out, if_neg (fun h => c2 h.1.2)]
    subst hpp
    clear HP
    rw [decide_eq_true c1] at t1
    rw [decide_eq_false c2] at t2
    clear t4 t5 t6 ha0 ha1 ha2 c1 c2 hT
    go_enter Tryz.func109, Tryz.ntmps109
    go_wp2_with (go_at_call 58; refine cD.mono ?_; rintro e w' ⟨rfl, hbw⟩)
    go_ret2
    exact ⟨rfl, hbw⟩
  · have hpp : pp = (r, m) := by rw [HP.out, if_neg (fun h => c3 h.2.1)]
    subst hpp
    clear HP
    rw [decide_eq_true c1] at t1
    rw [decide_eq_true c2] at t2
    have k3 : ¬ (3 : Int) ≤ (s.size : Int) := by omega
    clear t4 t5 t6 ha0 ha1 ha2 c1 c2 c3 hT
    go_enter Tryz.func109, Tryz.ntmps109
    go_wp2_with (go_at_call 58; refine cD.mono ?_; rintro e w' ⟨rfl, hbw⟩)
    go_ret2
    exact ⟨rfl, hbw⟩
  · have hpp : pp = (r, m) := by rw [HP.out, if_neg (fun h => c4 h.2.2.1)]
    subst hpp
    clear HP
    rw [decide_eq_true c1] at t1
    rw [decide_eq_true c2] at t2
    rw [decide_eq_false c4] at t4
    have k3 : (3 : Int) ≤ (s.size : Int) := by omega
    have k0 : (0 : Int) < (s.size : Int) := by omega
    replace ha0 := ha0 (by omega)
    clear t5 t6 ha1 ha2 c1 c2 c4 hT
    go_enter Tryz.func109, Tryz.ntmps109
    go_wp2_with (go_at_call 58; refine cD.mono ?_; rintro e w' ⟨rfl, hbw⟩)
    go_ret2
    exact ⟨rfl, hbw⟩
  · have hpp : pp = (r, m) := by rw [HP.out, if_neg (fun h => c5 h.2.2.2.1)]
    subst hpp
    clear HP
    rw [decide_eq_true c1] at t1
    rw [decide_eq_true c2] at t2
    rw [decide_eq_true c4] at t4
    rw [decide_eq_false c5] at t5
    have k3 : (3 : Int) ≤ (s.size : Int) := by omega
    have k0 : (0 : Int) < (s.size : Int) := by omega
    have k1 : (1 : Int) < (s.size : Int) := by omega
    replace ha0 := ha0 (by omega)
    replace ha1 := ha1 (by omega)
    clear t6 ha2 c1 c2 c4 c5 hT
    go_enter Tryz.func109, Tryz.ntmps109
    go_wp2_with (go_at_call 58; refine cD.mono ?_; rintro e w' ⟨rfl, hbw⟩)
    go_ret2
    exact ⟨rfl, hbw⟩
  · have hpp : pp = (r, m) := by rw [HP.out, if_neg (fun h => c6 h.2.2.2.2)]
    subst hpp
    clear HP
    rw [decide_eq_true c1] at t1
    rw [decide_eq_true c2] at t2
    rw [decide_eq_true c4] at t4
    rw [decide_eq_true c5] at t5
    rw [decide_eq_false c6] at t6
    have k3 : (3 : Int) ≤ (s.size : Int) := by omega
    have k0 : (0 : Int) < (s.size : Int) := by omega
    have k1 : (1 : Int) < (s.size : Int) := by omega
    have k2 : (2 : Int) < (s.size : Int) := by omega
    replace ha0 := ha0 (by omega)
    replace ha1 := ha1 (by omega)
    replace ha2 := ha2 (by omega)
    clear c1 c2 c4 c5 c6 hT
    go_enter Tryz.func109, Tryz.ntmps109
    go_wp2_with (go_at_call 58; refine cD.mono ?_; rintro e w' ⟨rfl, hbw⟩)
    go_ret2
    exact ⟨rfl, hbw⟩

/-- A unit as a cell. -/
def uv (u : Nat) : Value := .int .u16 (u : Int)
theorem i32_and1023 (x : Int) (h0 : 0 ≤ x) (h1 : x < 2147483648) : bits .and .i32 x 1023 = x % 1024 := bits_mask .i32 31 (by decide) wraps_i32 10 (by decide) x h0 h1

set_option maxHeartbeats 1000000 in
set_option maxRecDepth 100000 in
theorem appU_one (B : Nat) (v : Value) (n : Nat) (xs : List Value) (r : Int) (h0 : 0 ≤ r) (h1 : r < 65536) (w : World) (hown : w.ownsRow B 86 1 v n xs) (hlen : n + 4 ≤ 20000000) (hBw : B ≤ w.heap.size) :
    Calls Tryz.prog 110 #[v, .int .i32 r] w fun e w' => ∃ v', e = .returned v' ∧ w'.ownsRow B 86 1 v' (n + 1) (xs ++ [.int .u16 r]) ∧ ∃ o, (w.alloc o).grownBy w' v.ownBlock := by
  obtain ⟨i0, hi, hz0, hz1, hz2⟩ := info_parts info24
  have q3 : n + 1 ≤ maxLen := by unfold maxLen; omega
  go_enter Tryz.func110, Tryz.ntmps110
  go_wp2_with (at_builtin; refine wpList_append_own _ rfl _ _ 83 rfl B 86 i0 (.int .u16 0) 1 2 Tryz.underlying83 hi hz0 hz1 hz2 rfl (by decide) _ _ _ rfl (hown.alloc _) ⟨w.heap.size, 0, none⟩ 1 1 [.int .u16 r] rfl rfl (cells_new w [.int .u16 r] 86) (one_ints .u16 [r]) q3 (by omega) (by simp; omega) ?_; intro v' w2 hown' hgrow _)
  go_ret
  exact ⟨_, rfl, hown', _, hgrow⟩

set_option maxHeartbeats 1000000 in
set_option maxRecDepth 100000 in
theorem appU_two (B : Nat) (v : Value) (n : Nat) (xs : List Value) (r : Int) (h0 : 65536 ≤ r) (h1 : r ≤ 1114111) (w : World) (hown : w.ownsRow B 86 1 v n xs) (hlen : n + 4 ≤ 20000000) (hBw : B ≤ w.heap.size) :
    Calls Tryz.prog 110 #[v, .int .i32 r] w fun e w' => ∃ v', e = .returned v' ∧ w'.ownsRow B 86 1 v' (n + 2) (xs ++ [.int .u16 (55296 + (r - 65536) / 1024), .int .u16 (56320 + (r - 65536) % 1024)]) ∧ ∃ o, (w.alloc o).grownBy w' v.ownBlock := by
  obtain ⟨i0, hi, hz0, hz1, hz2⟩ := info_parts info24
  have q3 : n + 2 ≤ maxLen := by unfold maxLen; omega
  have b1 := i32_and1023 (r - 65536) (by omega) (by omega)
  go_enter Tryz.func110, Tryz.ntmps110
  go_wp2_with (at_builtin; refine wpList_append_own _ rfl _ _ 83 rfl B 86 i0 (.int .u16 0) 1 2 Tryz.underlying83 hi hz0 hz1 hz2 rfl (by decide) _ _ _ rfl (hown.alloc _) ⟨w.heap.size, 0, none⟩ 2 2 [.int .u16 (55296 + (r - 65536) / 1024), .int .u16 (56320 + (r - 65536) % 1024)] rfl rfl (cells_new w [.int .u16 (55296 + (r - 65536) / 1024), .int .u16 (56320 + (r - 65536) % 1024)] 86) (one_ints .u16 [55296 + (r - 65536) / 1024, 56320 + (r - 65536) % 1024]) q3 (by omega) (by simp; omega) ?_; intro v' w2 hown' hgrow _)
  go_ret
  exact ⟨_, rfl, hown', _, hgrow⟩

/-- **appendUnits, at every code point and every half.** -/
theorem appendUnits_any (B : Nat) (v : Value) (n : Nat) (xs : List Value) (r : Nat) (hr : r ≤ 1114111) (w : World) (hown : w.ownsRow B 86 1 v n xs) (hlen : n + 4 ≤ 20000000) (hBw : B ≤ w.heap.size) :
    Calls Tryz.prog 110 #[v, .int .i32 (r : Int)] w fun e w' => ∃ v', e = .returned v' ∧ w'.ownsRow B 86 1 v' (n + (Un.unR r).length) (xs ++ (Un.unR r).map uv) ∧ ∃ o, (w.alloc o).grownBy w' v.ownBlock := by
  unfold Un.unR
  by_cases h1 : r < 65536
  · rw [if_pos h1]
    exact appU_one B v n xs r (by omega) (by omega) w hown hlen hBw
  · rw [if_neg h1]
    have e1 : ((55296 + (r - 65536) / 1024 : Nat) : Int) = 55296 + ((r : Int) - 65536) / 1024 := by omega
    have e2 : ((56320 + (r - 65536) % 1024 : Nat) : Int) = 56320 + ((r : Int) - 65536) % 1024 := by omega
    have := appU_two B v n xs r (by omega) (by omega) w hown hlen hBw
    rw [← e1, ← e2] at this
    exact this
end Go.Proofs.YtmicdbplkfdfnaaGreatDoor
set_option linter.unusedVariables false
namespace Go.Proofs.YtmicdbplkfdfnaaGreatDoor
open Go.RowKit Go.Shelf

theorem cell_block_lt {w : World} {a : Addr} {v : Value} (h : w.cell? a = some v) : a.block < w.heap.size := World.block_lt_of_cell? w a h
theorem tabs_below {w w' : World} (hT : Lib.Utf8Tabs 2 3 w) (hb : Below w.heap.size w w') : Lib.Utf8Tabs 2 3 w' := by
  have h1 : 2 < w.heap.size := cell_block_lt (hT.1 0 (by omega))
  have h2 : 3 < w.heap.size := cell_block_lt (hT.2 0 (by omega)).1
  exact ⟨fun c hc => (hb.cell (p := ⟨2, c, none⟩) h1).trans (hT.1 c hc), fun i hi => ⟨(hb.cell (p := ⟨3, 2 * i, none⟩) h2).trans (hT.2 i hi).1, (hb.cell (p := ⟨3, 2 * i + 1, none⟩) h2).trans (hT.2 i hi).2⟩⟩

theorem below_grown {w w' : World} (h : Below w.heap.size w w') : w.grownBy w' none := ⟨h.os, h.tape, h.output, h.size, fun k hk _ => h.block k hk⟩

/-- The units of a text. -/
def unitsS (s : ByteArray) : List Nat := Un.unitsL s.size (bytes s)

theorem unitsS_ne (s : ByteArray) (h : s.size ≠ 0) : unitsS s ≠ [] := by
  have hne : bytes s ≠ [] := fun e => h (by rw [← bytes_len, e]; rfl)
  unfold unitsS
  rw [Un.unitsL_step s.size (bytes s) hne (by rw [bytes_len]; exact Nat.le_refl _)]
  intro e
  have h1 := (Un.unR_len (Un.ptL (bytes s)).1).1
  have h2 := congrArg List.length e
  rw [List.length_append] at h2
  simp only [List.length_nil] at h2
  omega

set_option maxRecDepth 100000 in
theorem ptL_low (bs : List Nat) (c : Nat) (h : bs[0]? = some c) (hc : c < 128) : Un.ptL bs = (c, 1) := by
  have hn : 1 ≤ bs.length := by cases bs with | nil => simp at h | cons _ _ => simp
  have hd : ∀ b1 b2 b3, Lib.decodeN bs.length c b1 b2 b3 = (c, 1) := by
    intro b1 b2 b3
    unfold Lib.decodeN
    repeat' split
    all_goals first | rfl | omega | (simp; omega)
  unfold Un.ptL Un.pointN
  rw [h]
  simp only [Option.getD_some]
  rw [hd, if_neg (by intro h2; omega)]
set_option maxRecDepth 100000 in
set_option maxHeartbeats 2000000 in
theorem units_any (s : ByteArray) (hs : s.size ≤ 2000000) (w : World) (hT : Lib.Utf8Tabs 2 3 w) :
    Calls Tryz.prog 81 #[.string s] w fun e w' => ∃ v, e = .returned v ∧ w'.ownsRow w.heap.size 86 1 v (unitsS s).length ((unitsS s).map uv) ∧ (v = .slice none 0 0 ↔ unitsS s = []) ∧ Below w.heap.size w w' := by
  obtain ⟨i0, hi, hz0, hz1, hz2⟩ := info_parts info24
  by_cases h0 : s.size = 0
  · have hne : s.toList.isEmpty = true := by
      rw [Lib.toList_data]
      have : s.data.toList = [] := List.eq_nil_of_length_eq_zero (by rw [← Lib.size_eq]; exact h0)
      rw [this]; rfl
    have hu : unitsS s = [] := by simp [unitsS, h0, Un.unitsL]
    rw [hu]
    go_enter Tryz.func81, Tryz.ntmps81
    go_wp2
    go_ret
    exact ⟨_, rfl, World.ownsRow_nil _ _ _ _, by simp, Below.refl _ _⟩
  · have hne : s.toList.isEmpty = false := by
      rw [Lib.toList_data]
      cases h : s.data.toList with
      | nil => exact absurd (by rw [Lib.size_eq, h]; rfl) h0
      | cons _ _ => rfl
    go_enter Tryz.func81, Tryz.ntmps81
    go_wp2_with (at_make; refine wpList_make_own _ rfl _ _ 83 rfl w.heap.size 86 i0 (.int .u16 0) 1 Tryz.underlying83 hi hz0 hz1 .i64 .i64 _ s.size rfl rfl rfl (by rw [hz2]; omega) (by unfold maxLen; omega) (Nat.le_refl _) ?_; intro w1 hown0 hg0)
    have hb1 : Below w.heap.size w w1 := (Below.refl _ w).grown hg0 (Nat.le_refl _) (fun k e => by cases e)
    have hnz := unitsS_ne s h0
    go_loopw [3, 4] (fun l i wr => ∃ (k f : Nat) (done : List Nat) (g cap : Nat), k ≤ s.size ∧ s.size - k ≤ f ∧ done.length ≤ 2 * k ∧ i = .int .i64 k ∧ l = .slice (some ⟨g, 0, none⟩) done.length cap ∧ wr.ownsRow w.heap.size 86 1 (.slice (some ⟨g, 0, none⟩) done.length cap) done.length (done.map uv) ∧ done ++ Un.unitsL f ((bytes s).drop k) = unitsS s ∧ Below w.heap.size w wr)
      (fun _ i _ => s.size - (intOf i).toNat)
    case atStart => exact ⟨0, s.size, [], _, _, Nat.zero_le _, Nat.sub_le _ _, Nat.le_refl _, rfl, rfl, hown0, rfl, hb1⟩
    case round =>
      obtain ⟨k, f, done, g, cap, hk, hf, hd, rfl, rfl, hrow, hsum, hbw⟩ := hrel
      have HS : Hid (done ++ Un.unitsL f ((bytes s).drop k) = unitsS s) := hsum
      clear hsum
      by_cases hlt : k < s.size
      · have hx : (s.extract k s.size).size = s.size - k := by rw [← bytes_len, bytes_drop, List.length_drop, bytes_len]
        have hdl : ((bytes s).drop k).length = s.size - k := by rw [List.length_drop, bytes_len]
        have hne' : (bytes s).drop k ≠ [] := fun e => by rw [e] at hdl; simp at hdl; omega
        have hpb := Un.ptL_bounds ((bytes s).drop k) hne' (fun b hb => bytes_lt s b (List.mem_of_mem_drop hb))
        have hst := Un.unitsL_step f ((bytes s).drop k) hne' (by rw [hdl]; exact hf)
        rw [List.drop_drop] at hst
        obtain ⟨c, hc0⟩ : ∃ c, (s[k]'hlt).toNat = c := ⟨_, rfl⟩
        have j0 : ∀ w, (Instr.index 9 (.string s) (.int .i64 (k : Int))).run Tryz.prog w = .ok (.int .u8 (c : Int)) w := fun w => by
          rw [run_index_string w 9 s .i64 _ Tryz.underlying9, dif_pos ⟨by omega, by omega⟩]
          rw [← hc0]
          rfl
        have hcd : ((bytes s).drop k)[0]? = some c := by
          have h1 := bytes_at s k hlt
          rw [hc0] at h1
          rw [List.getElem?_drop, Nat.add_zero, List.getElem?_eq_getElem (by rw [bytes_len]; exact hlt)] at *
          simpa using h1.symm
        have hc256 : c < 256 := bytes_lt s c (List.mem_of_mem_drop (List.mem_of_getElem? hcd))
        by_cases hcl : c < 128
        · have hp := ptL_low _ c hcd hcl
          rw [hp] at hst
          simp only at hst
          have hu1 : Un.unR c = [c] := by unfold Un.unR; rw [if_pos (by omega)]
          rw [hu1] at hst
          have HT : Hid (Un.unitsL f ((bytes s).drop k) = [c] ++ Un.unitsL (f - 1) ((bytes s).drop (k + 1))) := hst
          have hcz : (c : Int) < 128 := by omega
          have wu : IntKind.u16.wrap (c : Int) = (c : Int) := by rw [IntKind.wrap_u16]; omega
          have q3 : done.length + 1 ≤ maxLen := by unfold maxLen; omega
          have hsz := hbw.size
          clear hst hp hu1 hpb hcd hc0 hne' hdl hx
          go_wp2_with (at_builtin; refine wpList_append_own _ rfl _ _ 83 rfl w.heap.size 86 i0 (.int .u16 0) 1 2 Tryz.underlying83 hi hz0 hz1 hz2 rfl (by decide) _ _ _ rfl (hrow.alloc _) ⟨wr.heap.size, 0, none⟩ 1 1 [.int .u16 (c : Int)] rfl rfl (cells_new wr [.int .u16 (c : Int)] 86) (one_ints .u16 [(c : Int)]) q3 (by omega) (by simp; omega) ?_; intro v' w3 hown' hgrow _; obtain ⟨g', cap', rfl⟩ := ownsRow_pos (by omega) hown')
          have hb3 : Below w.heap.size w w3 := (hbw.alloc hbw.size (Obj.cells #[.int .u16 (c : Int)] 86)).grown hgrow (by have := hbw.size; simp; omega) (fun j e => (hrow.lt j e).1)
          go_roundw
          case rel => exact ⟨k + 1, f - 1, done ++ [c], g', cap', by omega, by omega, by simp; omega, by go_num, by simp, by simpa [uv] using hown', by rw [← HS.out, HT.out, List.append_assoc], hb3⟩
          case measure => simp [intOf]; omega
        clear hcd hc0
        have cP := fun W (hW : Below w.heap.size w W) => pointAt_any (s.extract k s.size) (by rw [hx]; omega) (by rw [hx]; omega) W (tabs_below hT hW)
        rw [bytes_drop] at cP
        generalize Un.ptL ((bytes s).drop k) = p at *
        obtain ⟨r, m⟩ := p
        simp only at hst hpb cP
        have hul := Un.unR_len r
        have cA := fun W (hW : W.ownsRow w.heap.size 86 1 (.slice (some ⟨g, 0, none⟩) done.length cap) done.length (done.map uv)) (hB : Below w.heap.size w W) => appendUnits_any w.heap.size (.slice (some ⟨g, 0, none⟩) done.length cap) done.length (done.map uv) r hpb.2.2 W hW (by omega) hB.size
        have HT : Hid (Un.unitsL f ((bytes s).drop k) = Un.unR r ++ Un.unitsL (f - 1) ((bytes s).drop (k + m))) := hst
        clear hst
        have hcn : ¬ ((c : Int) < 128) := by omega
        go_wp2_with (first
          | (go_at_call 109; refine (cP _ hbw).mono ?_; rintro e w2 ⟨rfl, hb2⟩; have hbw2 := hbw.trans (hb2.mono hbw.size); have hrow2 := hrow.kept (below_grown hb2) (.inr (by simp [Value.ownBlock])))
          | (go_at_call 110; refine (cA _ hrow2 hbw2).mono ?_; rintro e w3 ⟨v', rfl, hown', o, hgrow⟩; obtain ⟨g', cap', rfl⟩ := ownsRow_pos (by omega) hown'))
        have hb3 : Below w.heap.size w w3 := (hbw2.alloc hbw2.size o).grown hgrow (by have := hbw2.size; simp; omega) (fun j e => (hrow2.lt j e).1)
        go_roundw
        case rel => exact ⟨k + m, f - 1, done ++ Un.unR r, g', cap', by omega, by omega, by simp; omega, by go_num, by simp, by simpa using hown', by rw [← HS.out, HT.out, List.append_assoc], hb3⟩
        case measure => simp [intOf]; omega
      · obtain rfl : k = s.size := by omega
        go_wp2
        go_ret
        have e : done = unitsS s := by
          have := HS.out
          rw [List.drop_of_length_le (by rw [bytes_len]; exact Nat.le_refl _), Un.unitsL_nil, List.append_nil] at this
          exact this
        subst e
        exact ⟨_, rfl, hrow, ⟨fun e => by simp at e, fun e => absurd e hnz⟩, hbw⟩
end Go.Proofs.YtmicdbplkfdfnaaGreatDoor
set_option linter.unusedVariables false
namespace Go.Proofs.YtmicdbplkfdfnaaGreatDoor
open Go.RowKit Go.Shelf

theorem row16_of_owns {W : World} {base : Nat} {v : Value} {us : List Nat} (h : W.ownsRow base 86 1 v us.length (us.map uv)) : Row16 W.heap.size W v us := by
  rcases h.2 with ⟨rfl, h0⟩ | ⟨g, cap, cur, rfl, _, hgb, _⟩
  · exact .inl ⟨⟨_, _, rfl⟩, List.eq_nil_of_length_eq_zero h0⟩
  · refine .inr ⟨g, 0, cap, rfl, (h.lt g rfl).2, fun j hj => ?_⟩
    have := h.cells (g := g) rfl j (uv us[j]) (by simp [hj])
    have e : ((⟨g, 0, none⟩ : Addr).add j) = ⟨g, 0 + j, none⟩ := by
      unfold Addr.add
      split <;> simp_all
    rw [e] at this
    rw [this, List.getElem?_eq_getElem hj]
    rfl

theorem Row16.mono {n m : Nat} {W : World} {sv : Value} {us : List Nat} (h : Row16 n W sv us) (hm : n ≤ m) : Row16 m W sv us := by
  rcases h with e | ⟨b, off, cap, e, hb, hc⟩
  · exact .inl e
  · exact .inr ⟨b, off, cap, e, by omega, hc⟩
theorem bytes_txt (us : List Nat) (hu : ∀ u ∈ us, u < 65536) : bytes (txt us) = txtB us := by
  have hb : ∀ b ∈ txtB us, b < 256 := by
    intro b hb
    obtain ⟨r, hr, hb⟩ := List.mem_flatMap.1 hb
    exact Un.encR_lt r (Un.pts_lt us hu r hr) b hb
  show ((txtB us).map UInt8.ofNat).map UInt8.toNat = txtB us
  rw [List.map_map]
  refine (List.map_congr_left (g := id) (fun b h => ?_)).trans (List.map_id _)
  simp [UInt8.toNat_ofNat', Nat.mod_eq_of_lt (hb b h)]
theorem unitsS_txt (us : List Nat) (hu : ∀ u ∈ us, u < 65536) : unitsS (txt us) = us := by
  unfold unitsS
  rw [bytes_txt us hu]
  exact Un.unitsL_back us hu _ (by rw [← bytes_len, bytes_txt us hu]; exact Nat.le_refl _)
theorem unitsL_len : ∀ (f : Nat) (bs : List Nat), (∀ b ∈ bs, b < 256) → (Un.unitsL f bs).length ≤ 2 * bs.length
  | 0, bs, _ => by simp [Un.unitsL]
  | f + 1, bs, hb => by
    unfold Un.unitsL
    split
    · simp
    · rename_i h
      have h1 := Un.ptL_bounds bs h hb
      have h2 := (Un.unR_len (Un.ptL bs).1).2
      have h3 := unitsL_len f (bs.drop (Un.ptL bs).2) (fun b hb' => hb b (List.mem_of_mem_drop hb'))
      rw [List.length_drop] at h3
      rw [List.length_append]
      omega
theorem unitsS_len (s : ByteArray) : (unitsS s).length ≤ 2 * s.size := by
  have := unitsL_len s.size (bytes s) (bytes_lt s)
  rwa [bytes_len] at this
theorem unitsS_lt (s : ByteArray) : ∀ u ∈ unitsS s, u < 65536 := Un.unitsL_lt s.size (bytes s) (bytes_lt s)

theorem textOf_any (s : ByteArray) (hs : s.size ≤ 2000000) (w : World) (hT : Lib.Utf8Tabs 2 3 w) :
    Calls Tryz.prog 53 #[.string s] w fun e w' => e = .returned (.string (txt (unitsS s))) ∧ Below w.heap.size w w' := by
  have c1 := units_any s hs w hT
  have hl := unitsS_len s
  have CT := (show Hid _ from fun sv W (h : Row16 W.heap.size W sv (unitsS s)) => text_any sv (unitsS s) (unitsS_lt s) (by omega) W h)
  generalize unitsS s = us at *
  clear hl hT
  go_enter Tryz.func53, Tryz.ntmps53
  go_wp2_with (first | (go_at_call 81; fail))
  refine c1.mono ?_
  rintro e w1 ⟨v, rfl, hown, _, hb⟩
  have c2 := CT.out v w1 (row16_of_owns hown)
  clear c1 CT hown
  go_wp2_with (first | (go_at_call 80; refine c2.mono ?_; rintro e w2 ⟨rfl, hb2⟩))
  go_ret
  exact ⟨rfl, hb.trans (hb2.mono hb.size)⟩
end Go.Proofs.YtmicdbplkfdfnaaGreatDoor
set_option linter.unusedVariables false
namespace Go.Proofs.YtmicdbplkfdfnaaGreatDoor
open Go.RowKit

set_option maxHeartbeats 1000000 in
set_option maxRecDepth 100000 in
theorem apr_one (B : Nat) (v : Value) (n : Nat) (xs : List Value) (r : Int) (h0 : 0 ≤ r) (h1 : r < 128) (w : World) (hown : w.ownsRow B 5 1 v n xs) (hlen : n + 4 ≤ 140737488355328) (hBw : B ≤ w.heap.size) :
    Calls Tryz.prog 147 #[v, .int .i32 r] w fun e w' => ∃ v', e = .returned v' ∧ w'.ownsRow B 5 1 v' (n + 1) (xs ++ [.int .u8 r]) ∧ ∃ o, (w.alloc o).grownBy w' v.ownBlock := by
  obtain ⟨i0, hi, hz0, hz1, hz2⟩ := info_parts info5
  have q3 : n + 1 ≤ maxLen := by unfold maxLen; omega
  go_enter Tryz.func147, Tryz.ntmps147
  go_wp2_with (first | (at_builtin; refine wpList_append_own _ rfl _ _ 133 rfl B 5 i0 (.int .u8 0) 1 1 Tryz.underlying133 hi hz0 hz1 hz2 rfl (by decide) _ _ _ rfl (hown.alloc _) ⟨w.heap.size, 0, none⟩ 1 1 [.int .u8 r] rfl rfl (cells_new w [.int .u8 r] 5) (one_ints .u8 [r]) q3 (by omega) (by simp; omega) ?_; intro v' w2 hown' hgrow _) | go_in)
  go_ret
  exact ⟨_, rfl, hown', _, hgrow⟩

set_option maxHeartbeats 1000000 in
set_option maxRecDepth 100000 in
theorem apr_two (B : Nat) (v : Value) (n : Nat) (xs : List Value) (r : Int) (h0 : 128 ≤ r) (h1 : r < 2048) (w : World) (hown : w.ownsRow B 5 1 v n xs) (hlen : n + 4 ≤ 140737488355328) (hBw : B ≤ w.heap.size) :
    Calls Tryz.prog 147 #[v, .int .i32 r] w fun e w' => ∃ v', e = .returned v' ∧ w'.ownsRow B 5 1 v' (n + 2) (xs ++ [.int .u8 (192 + r / 64), .int .u8 (128 + r % 64)]) ∧ ∃ o, (w.alloc o).grownBy w' v.ownBlock := by
  obtain ⟨i0, hi, hz0, hz1, hz2⟩ := info_parts info5
  have q3 : n + 2 ≤ maxLen := by unfold maxLen; omega
  go_enter Tryz.func147, Tryz.ntmps147
  go_wp2_with (first | (at_builtin; refine wpList_append_own _ rfl _ _ 133 rfl B 5 i0 (.int .u8 0) 1 1 Tryz.underlying133 hi hz0 hz1 hz2 rfl (by decide) _ _ _ rfl (hown.alloc _) ⟨w.heap.size, 0, none⟩ 2 2 [.int .u8 (192 + r / 64), .int .u8 (128 + r % 64)] rfl rfl (cells_new w [.int .u8 (192 + r / 64), .int .u8 (128 + r % 64)] 5) (one_ints .u8 [192 + r / 64, 128 + r % 64]) q3 (by omega) (by simp; omega) ?_; intro v' w2 hown' hgrow _) | go_in)
  go_ret
  exact ⟨_, rfl, hown', _, hgrow⟩

set_option maxHeartbeats 1000000 in
set_option maxRecDepth 100000 in
theorem apr_three (B : Nat) (v : Value) (n : Nat) (xs : List Value) (r : Int) (hr : (2048 ≤ r ∧ r < 55296) ∨ (57343 < r ∧ r ≤ 65535)) (w : World) (hown : w.ownsRow B 5 1 v n xs) (hlen : n + 4 ≤ 140737488355328) (hBw : B ≤ w.heap.size) :
    Calls Tryz.prog 147 #[v, .int .i32 r] w fun e w' => ∃ v', e = .returned v' ∧ w'.ownsRow B 5 1 v' (n + 3) (xs ++ [.int .u8 (224 + r / 4096), .int .u8 (128 + r / 64 % 64), .int .u8 (128 + r % 64)]) ∧ ∃ o, (w.alloc o).grownBy w' v.ownBlock := by
  obtain ⟨i0, hi, hz0, hz1, hz2⟩ := info_parts info5
  have q3 : n + 3 ≤ maxLen := by unfold maxLen; omega
  rcases hr with ⟨h0, h1⟩ | ⟨h0, h1⟩
  all_goals
    go_enter Tryz.func147, Tryz.ntmps147
    go_wp2_with (first | (at_builtin; refine wpList_append_own _ rfl _ _ 133 rfl B 5 i0 (.int .u8 0) 1 1 Tryz.underlying133 hi hz0 hz1 hz2 rfl (by decide) _ _ _ rfl (hown.alloc _) ⟨w.heap.size, 0, none⟩ 3 3 [.int .u8 (224 + r / 4096), .int .u8 (128 + r / 64 % 64), .int .u8 (128 + r % 64)] rfl rfl (cells_new w [.int .u8 (224 + r / 4096), .int .u8 (128 + r / 64 % 64), .int .u8 (128 + r % 64)] 5) (one_ints .u8 [224 + r / 4096, 128 + r / 64 % 64, 128 + r % 64]) q3 (by omega) (by simp; omega) ?_; intro v' w2 hown' hgrow _) | go_in)
    go_ret
    exact ⟨_, rfl, hown', _, hgrow⟩

set_option maxHeartbeats 1000000 in
set_option maxRecDepth 100000 in
theorem apr_four (B : Nat) (v : Value) (n : Nat) (xs : List Value) (r : Int) (h0 : 65535 < r) (h1 : r ≤ 1114111) (w : World) (hown : w.ownsRow B 5 1 v n xs) (hlen : n + 4 ≤ 140737488355328) (hBw : B ≤ w.heap.size) :
    Calls Tryz.prog 147 #[v, .int .i32 r] w fun e w' => ∃ v', e = .returned v' ∧ w'.ownsRow B 5 1 v' (n + 4) (xs ++ [.int .u8 (240 + r / 262144), .int .u8 (128 + r / 4096 % 64), .int .u8 (128 + r / 64 % 64), .int .u8 (128 + r % 64)]) ∧ ∃ o, (w.alloc o).grownBy w' v.ownBlock := by
  obtain ⟨i0, hi, hz0, hz1, hz2⟩ := info_parts info5
  have q3 : n + 4 ≤ maxLen := by unfold maxLen; omega
  go_enter Tryz.func147, Tryz.ntmps147
  go_wp2_with (first | (at_builtin; refine wpList_append_own _ rfl _ _ 133 rfl B 5 i0 (.int .u8 0) 1 1 Tryz.underlying133 hi hz0 hz1 hz2 rfl (by decide) _ _ _ rfl (hown.alloc _) ⟨w.heap.size, 0, none⟩ 4 4 [.int .u8 (240 + r / 262144), .int .u8 (128 + r / 4096 % 64), .int .u8 (128 + r / 64 % 64), .int .u8 (128 + r % 64)] rfl rfl (cells_new w [.int .u8 (240 + r / 262144), .int .u8 (128 + r / 4096 % 64), .int .u8 (128 + r / 64 % 64), .int .u8 (128 + r % 64)] 5) (one_ints .u8 [240 + r / 262144, 128 + r / 4096 % 64, 128 + r / 64 % 64, 128 + r % 64]) q3 (by omega) (by simp; omega) ?_; intro v' w2 hown' hgrow _) | go_in)
  go_ret
  exact ⟨_, rfl, hown', _, hgrow⟩

/-- **AppendRune, at every code point that is no half.** -/
theorem appendRune_any (B : Nat) (v : Value) (n : Nat) (xs : List Value) (r : Nat) (hr : r ≤ 1114111) (hh : ¬ (55296 ≤ r ∧ r < 57344)) (w : World) (hown : w.ownsRow B 5 1 v n xs) (hlen : n + 4 ≤ 140737488355328) (hBw : B ≤ w.heap.size) :
    Calls Tryz.prog 147 #[v, .int .i32 (r : Int)] w fun e w' => ∃ v', e = .returned v' ∧ w'.ownsRow B 5 1 v' (n + (Un.encR r).length) (xs ++ (Un.encR r).map bv) ∧ ∃ o, (w.alloc o).grownBy w' v.ownBlock := by
  unfold Un.encR
  by_cases h1 : r < 128
  · rw [if_pos h1]
    exact apr_one B v n xs r (by omega) (by omega) w hown hlen hBw
  rw [if_neg h1]
  by_cases h2 : r < 2048
  · rw [if_pos h2]
    exact apr_two B v n xs r (by omega) (by omega) w hown hlen hBw
  rw [if_neg h2]
  by_cases h3 : r < 65536
  · rw [if_pos h3]
    exact apr_three B v n xs r (by omega) w hown hlen hBw
  rw [if_neg h3]
  exact apr_four B v n xs r (by omega) (by omega) w hown hlen hBw

namespace Un
/-- The halves, as the document's answer looks for them. -/
theorem pointN_half (n b0 b1 b2 b3 : Nat) (hn : 3 ≤ n) (h0 : b0 = 237) (h1 : 160 ≤ b1) (h1' : b1 < 192) (h2 : 128 ≤ b2) (h2' : b2 < 192) : pointN n b0 b1 b2 b3 = (53248 + (b1 - 128) * 64 + (b2 - 128), 3) := by
  have g1 : ¬ (b0 < 128) := by omega
  have g2 : ¬ (b0 / 32 = 6 ∧ (1 < n ∧ b1 / 64 = 2)) := by omega
  have g3 : b0 / 16 = 14 ∧ (1 < n ∧ b1 / 64 = 2) ∧ (2 < n ∧ b2 / 64 = 2) := by omega
  have hd : Lib.decodeN n b0 b1 b2 b3 = (65533, 1) := by
    unfold Lib.decodeN
    rw [if_neg g1, if_neg g2, if_pos g3, if_neg (by omega)]
  unfold pointN
  rw [hd, if_pos ⟨rfl, hn, h0, by omega, by omega⟩]
  refine Prod.ext ?_ rfl
  show 55296 + b1 % 32 * 64 + b2 % 64 = 53248 + (b1 - 128) * 64 + (b2 - 128)
  omega
theorem pointN_plain (n b0 b1 b2 b3 : Nat) (h : ¬ (3 ≤ n ∧ b0 = 237 ∧ 160 ≤ b1 ∧ b1 < 192 ∧ 128 ≤ b2 ∧ b2 < 192)) : pointN n b0 b1 b2 b3 = Lib.decodeN n b0 b1 b2 b3 := by
  unfold pointN
  rw [if_neg (fun hc => h ⟨hc.2.1, hc.2.2.1, by omega, by omega, by omega, by omega⟩)]
end Un
end Go.Proofs.YtmicdbplkfdfnaaGreatDoor
