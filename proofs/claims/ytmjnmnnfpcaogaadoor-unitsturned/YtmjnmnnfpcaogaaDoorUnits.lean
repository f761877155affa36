/- The walks of pointAt, appendUnits and Units. -/
import Derived.Test.YtmjnmnnfpcaogaaDoorText
import Derived.Test.YtmjnmnnfpcaogaaDoorLists
import Derived.Test.YtmjnmnnfpcaogaaDoorShelf
import Derived.Deep.QuietTactic
import Derived.BigQuiet
set_option linter.unusedVariables false
namespace Go.Proofs.YtmjnmnnfpcaogaaDoor
open Go.RowKit Go.Shelf

/-- The bytes of a text. -/
def bytes (s : ByteArray) : List Nat := s.data.toList.map UInt8.toNat
theorem bytes_len (s : ByteArray) : (bytes s).length = s.size := by rw [bytes, List.length_map, ← Lib.size_eq]
theorem bytes_lt (s : ByteArray) : ∀ b ∈ bytes s, b < 256 := by
  intro b hb
  obtain ⟨x, _, rfl⟩ := List.mem_map.1 hb
  exact x.toNat_lt
theorem bytes_get (s : ByteArray) (k : Nat) : (s.get! k).toNat = (bytes s)[k]?.getD 0 := by
  by_cases h : k < s.size
  · rw [Utf8W.get!_of_lt s k h]
    have h' : k < s.data.toList.length := by rw [← Lib.size_eq]; exact h
    simp only [bytes, List.getElem?_map, List.getElem?_eq_getElem h', Option.map_some, Option.getD_some]
    rfl
  · have h' : ¬ k < (bytes s).length := by rw [bytes_len]; exact h
    rw [List.getElem?_eq_none (by omega)]
    cases s with
    | mk d =>
      have : ¬ k < d.size := h
      simp [ByteArray.get!, this]
      rfl
theorem decodeGo_eq (s : ByteArray) (h : s.size ≠ 0) : Lib.decodeGo s = Lib.decodeN (bytes s).length ((bytes s)[0]?.getD 0) ((bytes s)[1]?.getD 0) ((bytes s)[2]?.getD 0) ((bytes s)[3]?.getD 0) := by
  rw [Lib.decodeGo, if_neg h, Lib.decode_at, bytes_get, bytes_get, bytes_get, bytes_get, bytes_len]
  rfl
theorem bytes_at (s : ByteArray) (k : Nat) (h : k < s.size) : (s[k]'h).toNat = (bytes s)[k]?.getD 0 := by
  rw [← bytes_get, Utf8W.get!_of_lt s k h]
theorem bytes_drop (s : ByteArray) (k : Nat) : bytes (s.extract k s.size) = (bytes s).drop k := by
  rw [bytes, Lib.extract_to_end, bytes, List.map_drop]

set_option maxRecDepth 100000 in
theorem and224 : ∀ x : Fin 256, (bits .and .u8 ((x.val : Nat) : Int) 224 == 160) = decide (x.val / 32 = 5) := by decide +kernel
set_option maxRecDepth 100000 in
theorem and192 : ∀ x : Fin 256, (bits .and .u8 ((x.val : Nat) : Int) 192 == 128) = decide (x.val / 64 = 2) := by decide +kernel
theorem and224' (x : Nat) (h : x < 256) : (bits .and .u8 (x : Int) 224 == 160) = decide (x / 32 = 5) := and224 ⟨x, h⟩
theorem and192' (x : Nat) (h : x < 256) : (bits .and .u8 (x : Int) 192 == 128) = decide (x / 64 = 2) := and192 ⟨x, h⟩
theorem or_half (x y : Int) (h0 : 0 ≤ x) (h1 : x < 32) (h2 : 0 ≤ y) (h3 : y < 64) : bits .or .i32 (bits .or .i32 55296 (x * 64)) y = 55296 + x * 64 + y := by
  rw [bits_join .i32 31 (by decide) wraps_i32 11 55296 (x * 64) (by decide) (by decide) (by decide) (by omega) (by omega) (by omega)]
  rw [bits_join .i32 31 (by decide) wraps_i32 6 (55296 + x * 64) y (by omega) (by omega) (by omega) (by omega) (by omega) (by omega)]

set_option maxHeartbeats 1000000 in
set_option maxRecDepth 100000 in
/-- **pointAt, at every text that is not empty.** -/
theorem pointAt_any (s : ByteArray) (h0 : s.size ≠ 0) (hs : s.size ≤ 100000) (w : World) (hT : Lib.Utf8Tabs 1 2 w) :
    Calls Tryd.prog 15 #[.string s] w fun e w' => e = .returned (.tuple #[.int .i32 ((Un.ptL (bytes s)).1 : Nat), .int .i64 ((Un.ptL (bytes s)).2 : Nat)]) ∧ Below w.heap.size w w' := by
  have cD := Tryd.utf8_DecodeRuneInString s w hT
  have e1 := decodeGo_eq s h0
  have hb0 := Un.getD_byte (bytes_lt s) 0
  have hb1 := Un.getD_byte (bytes_lt s) 1
  have hb2 := Un.getD_byte (bytes_lt s) 2
  have ha0 := bytes_at s 0
  have ha1 := bytes_at s 1
  have ha2 := bytes_at s 2
  have hl := bytes_len s
  have hr := Un.decodeN_bounds (bytes s).length ((bytes s)[0]?.getD 0) ((bytes s)[1]?.getD 0) ((bytes s)[2]?.getD 0) ((bytes s)[3]?.getD 0) (by omega) hb0
  unfold Un.ptL
  rw [e1] at cD
  clear e1
  generalize (bytes s)[0]?.getD 0 = x0 at *
  generalize (bytes s)[1]?.getD 0 = x1 at *
  generalize (bytes s)[2]?.getD 0 = x2 at *
  generalize (bytes s)[3]?.getD 0 = x3 at *
  rw [hl] at *
  clear hl
  have hP : Un.pointN s.size x0 x1 x2 x3 = if Lib.decodeN s.size x0 x1 x2 x3 = (65533, 1) ∧ 3 ≤ s.size ∧ x0 = 237 ∧ x1 / 32 = 5 ∧ x2 / 64 = 2 then (55296 + x1 % 32 * 64 + x2 % 64, 3) else Lib.decodeN s.size x0 x1 x2 x3 := rfl
  generalize Un.pointN s.size x0 x1 x2 x3 = pp at *
  generalize Lib.decodeN s.size x0 x1 x2 x3 = dd at *
  obtain ⟨r, m⟩ := dd
  simp only [Prod.mk.injEq] at hP hr cD
  have HP : Hid (pp = if (r = 65533 ∧ m = 1) ∧ 3 ≤ s.size ∧ x0 = 237 ∧ x1 / 32 = 5 ∧ x2 / 64 = 2 then (55296 + x1 % 32 * 64 + x2 % 64, 3) else (r, m)) := hP
  clear hP
  have t1 : ((r : Int) == 65533) = decide (r = 65533) := by rw [Bool.eq_iff_iff]; simp; omega
  have t2 : ((m : Int) == 1) = decide (m = 1) := by rw [Bool.eq_iff_iff]; simp; omega
  have t4 : ((x0 : Int) == 237) = decide (x0 = 237) := by rw [Bool.eq_iff_iff]; simp; omega
  have t5 := and224' x1 hb1
  have t6 := and192' x2 hb2
  have hcase : (r = 65533 ∧ m = 1 ∧ 3 ≤ s.size ∧ x0 = 237 ∧ x1 / 32 = 5 ∧ x2 / 64 = 2) ∨ (r ≠ 65533) ∨ (r = 65533 ∧ m ≠ 1) ∨ (r = 65533 ∧ m = 1 ∧ ¬ 3 ≤ s.size) ∨ (r = 65533 ∧ m = 1 ∧ 3 ≤ s.size ∧ x0 ≠ 237) ∨ (r = 65533 ∧ m = 1 ∧ 3 ≤ s.size ∧ x0 = 237 ∧ ¬ x1 / 32 = 5) ∨ (r = 65533 ∧ m = 1 ∧ 3 ≤ s.size ∧ x0 = 237 ∧ x1 / 32 = 5 ∧ ¬ x2 / 64 = 2) := by omega
  rcases hcase with ⟨c1, c2, c3, c4, c5, c6⟩ | c1 | ⟨c1, c2⟩ | ⟨c1, c2, c3⟩ | ⟨c1, c2, c3, c4⟩ | ⟨c1, c2, c3, c4, c5⟩ | ⟨c1, c2, c3, c4, c5, c6⟩
  · have hpp : pp = (55296 + x1 % 32 * 64 + x2 % 64, 3) := by rw [HP.out, if_pos ⟨⟨c1, c2⟩, c3, c4, c5, c6⟩]
    subst hpp
    clear HP
    replace ha0 := ha0 (by omega)
    replace ha1 := ha1 (by omega)
    replace ha2 := ha2 (by omega)
    rw [decide_eq_true c1] at t1
    rw [decide_eq_true c2] at t2
    rw [decide_eq_true c4] at t4
    rw [decide_eq_true c5] at t5
    rw [decide_eq_true c6] at t6
    have o1 := u8_and31 (x := (x1 : Int)) (by omega) (by omega)
    have o2 := u8_and63 (x := (x2 : Int)) (by omega) (by omega)
    have o3 := or_half ((x1 : Int) % 32) ((x2 : Int) % 64) (by omega) (by omega) (by omega) (by omega)
    have k1 : (1 : Int) < (s.size : Int) := by omega
    have k2 : (2 : Int) < (s.size : Int) := by omega
    have k3 : (3 : Int) ≤ (s.size : Int) := by omega
    have k0 : (0 : Int) < (s.size : Int) := by omega
    have CC : Hid (r = 65533 ∧ m = 1 ∧ x0 = 237) := ⟨c1, c2, c4⟩
    clear c1 c2 c4 c5 c6 hT
    go_enter Tryd.func15, Tryd.ntmps15
    go_wp2_with (go_at_call 17; refine cD.mono ?_; rintro e w' ⟨rfl, hbw⟩)
    go_region
    go_wp2
    go_ret2
    exact ⟨by simp, hbw.drew⟩
  · have hpp : pp = (r, m) := by rw [HP.out, if_neg (fun h => c1 h.1.1)]
    subst hpp
    clear HP
    rw [decide_eq_false c1] at t1
    clear t2 t4 t5 t6 ha0 ha1 ha2 c1 hT
    go_enter Tryd.func15, Tryd.ntmps15
    go_wp2_with (go_at_call 17; refine cD.mono ?_; rintro e w' ⟨rfl, hbw⟩)
    go_ret2
    exact ⟨rfl, hbw⟩
  · have hpp : pp = (r, m) := by rw [HP.out, if_neg (fun h => c2 h.1.2)]
    subst hpp
    clear HP
    rw [decide_eq_true c1] at t1
    rw [decide_eq_false c2] at t2
    clear t4 t5 t6 ha0 ha1 ha2 c1 c2 hT
    go_enter Tryd.func15, Tryd.ntmps15
    go_wp2_with (go_at_call 17; refine cD.mono ?_; rintro e w' ⟨rfl, hbw⟩)
    go_ret2
    exact ⟨rfl, hbw⟩
  · have hpp : pp = (r, m) := by rw [HP.out, if_neg (fun h => c3 h.2.1)]
    subst hpp
    clear HP
    rw [decide_eq_true c1] at t1
    rw [decide_eq_true c2] at t2
    have k3 : ¬ (3 : Int) ≤ (s.size : Int) := by omega
    clear t4 t5 t6 ha0 ha1 ha2 c1 c2 c3 hT
    go_enter Tryd.func15, Tryd.ntmps15
    go_wp2_with (go_at_call 17; refine cD.mono ?_; rintro e w' ⟨rfl, hbw⟩)
    go_ret2
    exact ⟨rfl, hbw⟩
  · have hpp : pp = (r, m) := by rw [HP.out, if_neg (fun h => c4 h.2.2.1)]
    subst hpp
    clear HP
    rw [decide_eq_true c1] at t1
    rw [decide_eq_true c2] at t2
    rw [decide_eq_false c4] at t4
    have k3 : (3 : Int) ≤ (s.size : Int) := by omega
    have k0 : (0 : Int) < (s.size : Int) := by omega
    replace ha0 := ha0 (by omega)
    clear t5 t6 ha1 ha2 c1 c2 c4 hT
    go_enter Tryd.func15, Tryd.ntmps15
    go_wp2_with (go_at_call 17; refine cD.mono ?_; rintro e w' ⟨rfl, hbw⟩)
    go_ret2
    exact ⟨rfl, hbw⟩
  · have hpp : pp = (r, m) := by rw [HP.out, if_neg (fun h => c5 h.2.2.2.1)]
    subst hpp
    clear HP
    rw [decide_eq_true c1] at t1
    rw [decide_eq_true c2] at t2
    rw [decide_eq_true c4] at t4
    rw [decide_eq_false c5] at t5
    have k3 : (3 : Int) ≤ (s.size : Int) := by omega
    have k0 : (0 : Int) < (s.size : Int) := by omega
    have k1 : (1 : Int) < (s.size : Int) := by omega
    replace ha0 := ha0 (by omega)
    replace ha1 := ha1 (by omega)
    clear t6 ha2 c1 c2 c4 c5 hT
    go_enter Tryd.func15, Tryd.ntmps15
    go_wp2_with (go_at_call 17; refine cD.mono ?_; rintro e w' ⟨rfl, hbw⟩)
    go_ret2
    exact ⟨rfl, hbw⟩
  · have hpp : pp = (r, m) := by rw [HP.out, if_neg (fun h => c6 h.2.2.2.2)]
    subst hpp
    clear HP
    rw [decide_eq_true c1] at t1
    rw [decide_eq_true c2] at t2
    rw [decide_eq_true c4] at t4
    rw [decide_eq_true c5] at t5
    rw [decide_eq_false c6] at t6
    have k3 : (3 : Int) ≤ (s.size : Int) := by omega
    have k0 : (0 : Int) < (s.size : Int) := by omega
    have k1 : (1 : Int) < (s.size : Int) := by omega
    have k2 : (2 : Int) < (s.size : Int) := by omega
    replace ha0 := ha0 (by omega)
    replace ha1 := ha1 (by omega)
    replace ha2 := ha2 (by omega)
    clear c1 c2 c4 c5 c6 hT
    go_enter Tryd.func15, Tryd.ntmps15
    go_wp2_with (go_at_call 17; refine cD.mono ?_; rintro e w' ⟨rfl, hbw⟩)
    go_ret2
    exact ⟨rfl, hbw⟩

/-- A unit as a cell. -/
def uv (u : Nat) : Value := .int .u16 (u : Int)
theorem i32_and1023 (x : Int) (h0 : 0 ≤ x) (h1 : x < 2147483648) : bits .and .i32 x 1023 = x % 1024 := bits_mask .i32 31 (by decide) wraps_i32 10 (by decide) x h0 h1

set_option maxHeartbeats 1000000 in
set_option maxRecDepth 100000 in
theorem appU_one (B : Nat) (v : Value) (n : Nat) (xs : List Value) (r : Int) (h0 : 0 ≤ r) (h1 : r < 65536) (w : World) (hown : w.ownsRow B 24 1 v n xs) (hlen : n + 4 ≤ 1000000) (hBw : B ≤ w.heap.size) :
    Calls Tryd.prog 16 #[v, .int .i32 r] w fun e w' => ∃ v', e = .returned v' ∧ w'.ownsRow B 24 1 v' (n + 1) (xs ++ [.int .u16 r]) ∧ ∃ o, (w.alloc o).grownBy w' v.ownBlock := by
  obtain ⟨i0, hi, hz0, hz1, hz2⟩ := info_parts info24
  have q3 : n + 1 ≤ maxLen := by unfold maxLen; omega
  go_enter Tryd.func16, Tryd.ntmps16
  go_wp2_with (at_builtin; refine wpList_append_own _ rfl _ _ 22 rfl B 24 i0 (.int .u16 0) 1 2 Tryd.underlying22 hi hz0 hz1 hz2 rfl (by decide) _ _ _ rfl (hown.alloc _) ⟨w.heap.size, 0, none⟩ 1 1 [.int .u16 r] rfl rfl (cells_new w [.int .u16 r] 24) (one_ints .u16 [r]) q3 (by omega) (by simp; omega) ?_; intro v' w2 hown' hgrow _)
  go_ret
  exact ⟨_, rfl, hown', _, hgrow⟩

set_option maxHeartbeats 1000000 in
set_option maxRecDepth 100000 in
theorem appU_two (B : Nat) (v : Value) (n : Nat) (xs : List Value) (r : Int) (h0 : 65536 ≤ r) (h1 : r ≤ 1114111) (w : World) (hown : w.ownsRow B 24 1 v n xs) (hlen : n + 4 ≤ 1000000) (hBw : B ≤ w.heap.size) :
    Calls Tryd.prog 16 #[v, .int .i32 r] w fun e w' => ∃ v', e = .returned v' ∧ w'.ownsRow B 24 1 v' (n + 2) (xs ++ [.int .u16 (55296 + (r - 65536) / 1024), .int .u16 (56320 + (r - 65536) % 1024)]) ∧ ∃ o, (w.alloc o).grownBy w' v.ownBlock := by
  obtain ⟨i0, hi, hz0, hz1, hz2⟩ := info_parts info24
  have q3 : n + 2 ≤ maxLen := by unfold maxLen; omega
  have b1 := i32_and1023 (r - 65536) (by omega) (by omega)
  go_enter Tryd.func16, Tryd.ntmps16
  go_wp2_with (at_builtin; refine wpList_append_own _ rfl _ _ 22 rfl B 24 i0 (.int .u16 0) 1 2 Tryd.underlying22 hi hz0 hz1 hz2 rfl (by decide) _ _ _ rfl (hown.alloc _) ⟨w.heap.size, 0, none⟩ 2 2 [.int .u16 (55296 + (r - 65536) / 1024), .int .u16 (56320 + (r - 65536) % 1024)] rfl rfl (cells_new w [.int .u16 (55296 + (r - 65536) / 1024), .int .u16 (56320 + (r - 65536) % 1024)] 24) (one_ints .u16 [55296 + (r - 65536) / 1024, 56320 + (r - 65536) % 1024]) q3 (by omega) (by simp; omega) ?_; intro v' w2 hown' hgrow _)
  go_ret
  exact ⟨_, rfl, hown', _, hgrow⟩

/-- **appendUnits, at every code point and every half.** -/
theorem appendUnits_any (B : Nat) (v : Value) (n : Nat) (xs : List Value) (r : Nat) (hr : r ≤ 1114111) (w : World) (hown : w.ownsRow B 24 1 v n xs) (hlen : n + 4 ≤ 1000000) (hBw : B ≤ w.heap.size) :
    Calls Tryd.prog 16 #[v, .int .i32 (r : Int)] w fun e w' => ∃ v', e = .returned v' ∧ w'.ownsRow B 24 1 v' (n + (Un.unR r).length) (xs ++ (Un.unR r).map uv) ∧ ∃ o, (w.alloc o).grownBy w' v.ownBlock := by
  unfold Un.unR
  by_cases h1 : r < 65536
  · rw [if_pos h1]
    exact appU_one B v n xs r (by omega) (by omega) w hown hlen hBw
  · rw [if_neg h1]
    have e1 : ((55296 + (r - 65536) / 1024 : Nat) : Int) = 55296 + ((r : Int) - 65536) / 1024 := by omega
    have e2 : ((56320 + (r - 65536) % 1024 : Nat) : Int) = 56320 + ((r : Int) - 65536) % 1024 := by omega
    have := appU_two B v n xs r (by omega) (by omega) w hown hlen hBw
    rw [← e1, ← e2] at this
    exact this
end Go.Proofs.YtmjnmnnfpcaogaaDoor
