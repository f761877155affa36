/- The walk of AppendRune onto a row of bytes that the call owns: a code point that is no half. -/
import Derived.Test.YtmjnmnnfpcaogaaDoorApp
import Derived.Test.YtmjnmnnfpcaogaaDoorLists
set_option linter.unusedVariables false
namespace Go.Proofs.YtmjnmnnfpcaogaaDoor
open Go.RowKit

set_option maxHeartbeats 1000000 in
set_option maxRecDepth 100000 in
theorem apr_one (B : Nat) (v : Value) (n : Nat) (xs : List Value) (r : Int) (h0 : 0 ≤ r) (h1 : r < 128) (w : World) (hown : w.ownsRow B 5 1 v n xs) (hlen : n + 4 ≤ 140737488355328) (hBw : B ≤ w.heap.size) :
    Calls Tryd.prog 22 #[v, .int .i32 r] w fun e w' => ∃ v', e = .returned v' ∧ w'.ownsRow B 5 1 v' (n + 1) (xs ++ [.int .u8 r]) ∧ ∃ o, (w.alloc o).grownBy w' v.ownBlock := by
  obtain ⟨i0, hi, hz0, hz1, hz2⟩ := info_parts info5
  have q3 : n + 1 ≤ maxLen := by unfold maxLen; omega
  go_enter Tryd.func22, Tryd.ntmps22
  go_wp2_with (first | (at_builtin; refine wpList_append_own _ rfl _ _ 35 rfl B 5 i0 (.int .u8 0) 1 1 Tryd.underlying35 hi hz0 hz1 hz2 rfl (by decide) _ _ _ rfl (hown.alloc _) ⟨w.heap.size, 0, none⟩ 1 1 [.int .u8 r] rfl rfl (cells_new w [.int .u8 r] 5) (one_ints .u8 [r]) q3 (by omega) (by simp; omega) ?_; intro v' w2 hown' hgrow _) | go_in)
  go_ret
  exact ⟨_, rfl, hown', _, hgrow⟩

set_option maxHeartbeats 1000000 in
set_option maxRecDepth 100000 in
theorem apr_two (B : Nat) (v : Value) (n : Nat) (xs : List Value) (r : Int) (h0 : 128 ≤ r) (h1 : r < 2048) (w : World) (hown : w.ownsRow B 5 1 v n xs) (hlen : n + 4 ≤ 140737488355328) (hBw : B ≤ w.heap.size) :
    Calls Tryd.prog 22 #[v, .int .i32 r] w fun e w' => ∃ v', e = .returned v' ∧ w'.ownsRow B 5 1 v' (n + 2) (xs ++ [.int .u8 (192 + r / 64), .int .u8 (128 + r % 64)]) ∧ ∃ o, (w.alloc o).grownBy w' v.ownBlock := by
  obtain ⟨i0, hi, hz0, hz1, hz2⟩ := info_parts info5
  have q3 : n + 2 ≤ maxLen := by unfold maxLen; omega
  go_enter Tryd.func22, Tryd.ntmps22
  go_wp2_with (first | (at_builtin; refine wpList_append_own _ rfl _ _ 35 rfl B 5 i0 (.int .u8 0) 1 1 Tryd.underlying35 hi hz0 hz1 hz2 rfl (by decide) _ _ _ rfl (hown.alloc _) ⟨w.heap.size, 0, none⟩ 2 2 [.int .u8 (192 + r / 64), .int .u8 (128 + r % 64)] rfl rfl (cells_new w [.int .u8 (192 + r / 64), .int .u8 (128 + r % 64)] 5) (one_ints .u8 [192 + r / 64, 128 + r % 64]) q3 (by omega) (by simp; omega) ?_; intro v' w2 hown' hgrow _) | go_in)
  go_ret
  exact ⟨_, rfl, hown', _, hgrow⟩

set_option maxHeartbeats 1000000 in
set_option maxRecDepth 100000 in
theorem apr_three (B : Nat) (v : Value) (n : Nat) (xs : List Value) (r : Int) (hr : (2048 ≤ r ∧ r < 55296) ∨ (57343 < r ∧ r ≤ 65535)) (w : World) (hown : w.ownsRow B 5 1 v n xs) (hlen : n + 4 ≤ 140737488355328) (hBw : B ≤ w.heap.size) :
    Calls Tryd.prog 22 #[v, .int .i32 r] w fun e w' => ∃ v', e = .returned v' ∧ w'.ownsRow B 5 1 v' (n + 3) (xs ++ [.int .u8 (224 + r / 4096), .int .u8 (128 + r / 64 % 64), .int .u8 (128 + r % 64)]) ∧ ∃ o, (w.alloc o).grownBy w' v.ownBlock := by
  obtain ⟨i0, hi, hz0, hz1, hz2⟩ := info_parts info5
  have q3 : n + 3 ≤ maxLen := by unfold maxLen; omega
  rcases hr with ⟨h0, h1⟩ | ⟨h0, h1⟩
  all_goals
    go_enter Tryd.func22, Tryd.ntmps22
    go_wp2_with (first | (at_builtin; refine wpList_append_own _ rfl _ _ 35 rfl B 5 i0 (.int .u8 0) 1 1 Tryd.underlying35 hi hz0 hz1 hz2 rfl (by decide) _ _ _ rfl (hown.alloc _) ⟨w.heap.size, 0, none⟩ 3 3 [.int .u8 (224 + r / 4096), .int .u8 (128 + r / 64 % 64), .int .u8 (128 + r % 64)] rfl rfl (cells_new w [.int .u8 (224 + r / 4096), .int .u8 (128 + r / 64 % 64), .int .u8 (128 + r % 64)] 5) (one_ints .u8 [224 + r / 4096, 128 + r / 64 % 64, 128 + r % 64]) q3 (by omega) (by simp; omega) ?_; intro v' w2 hown' hgrow _) | go_in)
    go_ret
    exact ⟨_, rfl, hown', _, hgrow⟩

set_option maxHeartbeats 1000000 in
set_option maxRecDepth 100000 in
theorem apr_four (B : Nat) (v : Value) (n : Nat) (xs : List Value) (r : Int) (h0 : 65535 < r) (h1 : r ≤ 1114111) (w : World) (hown : w.ownsRow B 5 1 v n xs) (hlen : n + 4 ≤ 140737488355328) (hBw : B ≤ w.heap.size) :
    Calls Tryd.prog 22 #[v, .int .i32 r] w fun e w' => ∃ v', e = .returned v' ∧ w'.ownsRow B 5 1 v' (n + 4) (xs ++ [.int .u8 (240 + r / 262144), .int .u8 (128 + r / 4096 % 64), .int .u8 (128 + r / 64 % 64), .int .u8 (128 + r % 64)]) ∧ ∃ o, (w.alloc o).grownBy w' v.ownBlock := by
  obtain ⟨i0, hi, hz0, hz1, hz2⟩ := info_parts info5
  have q3 : n + 4 ≤ maxLen := by unfold maxLen; omega
  go_enter Tryd.func22, Tryd.ntmps22
  go_wp2_with (first | (at_builtin; refine wpList_append_own _ rfl _ _ 35 rfl B 5 i0 (.int .u8 0) 1 1 Tryd.underlying35 hi hz0 hz1 hz2 rfl (by decide) _ _ _ rfl (hown.alloc _) ⟨w.heap.size, 0, none⟩ 4 4 [.int .u8 (240 + r / 262144), .int .u8 (128 + r / 4096 % 64), .int .u8 (128 + r / 64 % 64), .int .u8 (128 + r % 64)] rfl rfl (cells_new w [.int .u8 (240 + r / 262144), .int .u8 (128 + r / 4096 % 64), .int .u8 (128 + r / 64 % 64), .int .u8 (128 + r % 64)] 5) (one_ints .u8 [240 + r / 262144, 128 + r / 4096 % 64, 128 + r / 64 % 64, 128 + r % 64]) q3 (by omega) (by simp; omega) ?_; intro v' w2 hown' hgrow _) | go_in)
  go_ret
  exact ⟨_, rfl, hown', _, hgrow⟩

/-- **AppendRune, at every code point that is no half.** -/
theorem appendRune_any (B : Nat) (v : Value) (n : Nat) (xs : List Value) (r : Nat) (hr : r ≤ 1114111) (hh : ¬ (55296 ≤ r ∧ r < 57344)) (w : World) (hown : w.ownsRow B 5 1 v n xs) (hlen : n + 4 ≤ 140737488355328) (hBw : B ≤ w.heap.size) :
    Calls Tryd.prog 22 #[v, .int .i32 (r : Int)] w fun e w' => ∃ v', e = .returned v' ∧ w'.ownsRow B 5 1 v' (n + (Un.encR r).length) (xs ++ (Un.encR r).map bv) ∧ ∃ o, (w.alloc o).grownBy w' v.ownBlock := by
  unfold Un.encR
  by_cases h1 : r < 128
  · rw [if_pos h1]
    exact apr_one B v n xs r (by omega) (by omega) w hown hlen hBw
  rw [if_neg h1]
  by_cases h2 : r < 2048
  · rw [if_pos h2]
    exact apr_two B v n xs r (by omega) (by omega) w hown hlen hBw
  rw [if_neg h2]
  by_cases h3 : r < 65536
  · rw [if_pos h3]
    exact apr_three B v n xs r (by omega) w hown hlen hBw
  rw [if_neg h3]
  exact apr_four B v n xs r (by omega) (by omega) w hown hlen hBw

namespace Un
/-- The halves, as the document's answer looks for them. -/
theorem pointN_half (n b0 b1 b2 b3 : Nat) (hn : 3 ≤ n) (h0 : b0 = 237) (h1 : 160 ≤ b1) (h1' : b1 < 192) (h2 : 128 ≤ b2) (h2' : b2 < 192) : pointN n b0 b1 b2 b3 = (53248 + (b1 - 128) * 64 + (b2 - 128), 3) := by
  have g1 : ¬ (b0 < 128) := by omega
  have g2 : ¬ (b0 / 32 = 6 ∧ (1 < n ∧ b1 / 64 = 2)) := by omega
  have g3 : b0 / 16 = 14 ∧ (1 < n ∧ b1 / 64 = 2) ∧ (2 < n ∧ b2 / 64 = 2) := by omega
  have hd : Lib.decodeN n b0 b1 b2 b3 = (65533, 1) := by
    unfold Lib.decodeN
    rw [if_neg g1, if_neg g2, if_pos g3, if_neg (by omega)]
  unfold pointN
  rw [hd, if_pos ⟨rfl, hn, h0, by omega, by omega⟩]
  refine Prod.ext ?_ rfl
  show 55296 + b1 % 32 * 64 + b2 % 64 = 53248 + (b1 - 128) * 64 + (b2 - 128)
  omega
theorem pointN_plain (n b0 b1 b2 b3 : Nat) (h : ¬ (3 ≤ n ∧ b0 = 237 ∧ 160 ≤ b1 ∧ b1 < 192 ∧ 128 ≤ b2 ∧ b2 < 192)) : pointN n b0 b1 b2 b3 = Lib.decodeN n b0 b1 b2 b3 := by
  unfold pointN
  rw [if_neg (fun hc => h ⟨hc.2.1, hc.2.2.1, by omega, by omega, by omega, by omega⟩)]
end Un
end Go.Proofs.YtmjnmnnfpcaogaaDoor
