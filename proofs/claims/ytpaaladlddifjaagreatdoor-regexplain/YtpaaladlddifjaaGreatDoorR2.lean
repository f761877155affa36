/- Digits to the base 16; leaves. -/
import Derived.Test.YtpaaladlddifjaaGreatDoorR1
import Derived.LoopTactic
set_option linter.unusedVariables false
namespace Go.Proofs.YtpaaladlddifjaaGreatDoor
open Go.RowKit Re

theorem isDigit_any (u : Nat) (w : World) : Calls Tryz.prog 89 #[.int .u16 (u : Int)] w fun e w' => e = .returned (.bool (decide (48 ≤ u ∧ u ≤ 57))) ∧ w' = w := by
  by_cases h1 : (48 : Int) ≤ u
  · by_cases h2 : (u : Int) ≤ 57
    · rw [decide_eq_true (by omega)]
      go_enter Tryz.func89, Tryz.ntmps89
      go_wp2
      go_ret
      exact ⟨rfl, rfl⟩
    · rw [decide_eq_false (by omega)]
      go_enter Tryz.func89, Tryz.ntmps89
      go_wp2
      go_ret
      exact ⟨rfl, rfl⟩
  · rw [decide_eq_false (by omega)]
    go_enter Tryz.func89, Tryz.ntmps89
    go_wp2
    go_ret
    exact ⟨rfl, rfl⟩
theorem hexDigit_hd (d : Nat) (hd16 : d < 16) (w : World) : Calls Tryz.prog 107 #[.int .u16 ((hd d : Nat) : Int)] w fun e w' => e = .returned (.int .u16 (d : Int)) ∧ w' = w := by
  have ci := isDigit_any (hd d) w
  by_cases h : d < 10
  · have e : hd d = 48 + d := by unfold hd; rw [if_pos h]
    rw [e] at ci ⊢
    simp only [decide_eq_true (show 48 ≤ 48 + d ∧ 48 + d ≤ 57 by omega)] at ci
    obtain ⟨z, hz⟩ : ∃ z : Int, z = ((48 + d : Nat) : Int) := ⟨_, rfl⟩
    rw [← hz] at ci ⊢
    have hz2 : z - 48 = d := by omega
    clear hz e
    go_enter Tryz.func107, Tryz.ntmps107
    go_wp2_with (go_at_call 89; refine ci.mono ?_; rintro e w' ⟨rfl, rfl⟩)
    go_ret
    exact ⟨rfl, rfl⟩
  · have e : hd d = 87 + d := by unfold hd; rw [if_neg h]
    rw [e] at ci ⊢
    simp only [decide_eq_false (show ¬ (48 ≤ 87 + d ∧ 87 + d ≤ 57) by omega)] at ci
    obtain ⟨z, hz⟩ : ∃ z : Int, z = ((87 + d : Nat) : Int) := ⟨_, rfl⟩
    rw [← hz] at ci ⊢
    have hz2 : z - 97 + 10 = d := by omega
    have hz3 : 97 ≤ z := by omega
    have hz4 : z ≤ 102 := by omega
    clear hz e
    go_enter Tryz.func107, Tryz.ntmps107
    go_wp2_with (go_at_call 89; refine ci.mono ?_; rintro e w' ⟨rfl, rfl⟩)
    go_ret
    exact ⟨rfl, rfl⟩
def nodeL (op x : Int) : Array Value := #[.int .i64 0, .int .i64 op, .int .i64 x, .int .i64 0, .int .i64 0, .int .i64 0, .int .i64 0, .bool false, .int .i64 0, .int .i64 0, .int .i64 0, .int .i64 0, .int .i64 0, .slice none 0 0]
theorem leaf_any (op x : Int) (w : World) : Calls Tryz.prog 72 #[.int .i64 op, .int .i64 x] w fun e w' => e = .returned (.pointer (some ⟨w.heap.size, 0, none⟩)) ∧ w'.heap[w.heap.size]? = some (Obj.cells (nodeL op x) 90 (0, 0)) ∧ Kx [] w w' := by
  go_enter Tryz.func72, Tryz.ntmps72
  go_wp2
  go_ret
  exact ⟨rfl, heap_new w _, Kx.alloc _ _ _⟩
theorem wraps16 (n : Int) (h₀ : 0 ≤ n) (h₁ : n < 2 ^ 16) : IntKind.u16.wrap n = n := by rw [IntKind.wrap_u16]; omega
def hv (d : Nat → Nat) : Nat → Nat
  | 0 => 0
  | k + 1 => hv d k * 16 + d k
theorem hv_lt (d : Nat → Nat) (hd16 : ∀ k, d k < 16) : ∀ k, hv d k < 16 ^ k
  | 0 => by simp [hv]
  | k + 1 => by
    have := hv_lt d hd16 k
    have := hd16 k
    rw [hv, Nat.pow_succ]
    omega
theorem rd_ne {w : World} {R : Nat} {ar : Array Value} {fr : Nat × Nat} (h : w.heap[R]? = some (Obj.cells ar 56 fr)) : ∀ i ∈ [R], ∀ cur fr, w.heap[i]? ≠ some (Obj.cells cur 24 fr) := by
  intro i hi cur fr e
  rw [List.mem_singleton.1 hi, h] at e
  simp at e
set_option maxRecDepth 100000 in
theorem hex_four {w : World} {R c p ts : Nat} {a : Option Addr} {l : List Nat} (d : Nat → Nat) (hd16 : ∀ k, d k < 16) (h : w.heap[R]? = some (Obj.cells (rdA a l.length c p ts) 56 (0, 0))) (hl : Lu w a l) (hp : p + 4 ≤ l.length) (hm : l.length ≤ 100000) (hx : ∀ k, k < 4 → l[p + k]?.getD 0 = hd (d k)) :
    Calls Tryz.prog 93 #[.pointer (some ⟨R, 0, none⟩), .int .i64 4] w fun e w' => e = .returned (.int .u16 ((hv d 4 : Nat) : Int)) ∧ w'.heap[R]? = some (Obj.cells (rdA a l.length c (p + 4) ts) 56 (0, 0)) ∧ Kx [R] w w' := by
  have hk16 := hv_lt d hd16
  go_enter Tryz.func93, Tryz.ntmps93
  go_wp2
  go_loopw [5, 7] (fun n i wr => ∃ k : Nat, k ≤ 4 ∧ n = .int .u16 ((hv d k : Nat) : Int) ∧ i = .int .i64 (k : Int) ∧ wr.heap[R]? = some (Obj.cells (rdA a l.length c (p + k) ts) 56 (0, 0)) ∧ Kx [R] w wr) (fun _ i _ => 4 - (intOf i).toNat)
  case atStart => exact ⟨0, by omega, rfl, rfl, h, Kx.refl _ _⟩
  case round =>
    obtain ⟨k, hk, rfl, rfl, hr, hK⟩ := hrel
    by_cases hlt : k < 4
    · have hlr := hl.kept hK (rd_ne h)
      have cn := next_any hr hlr (by omega) hm
      rw [hx k hlt] at cn
      have ch := hexDigit_hd (d k) (hd16 k)
      have hv1 : hv d k < 4096 := by
        have := hk16 k
        have : 16 ^ k ≤ 16 ^ 3 := Nat.pow_le_pow_right (by decide) (by omega)
        omega
      have hd1 := hd16 k
      have HV : Hid (hv d (k + 1) = hv d k * 16 + d k) := rfl
      generalize hv d k = v at *
      generalize hd (d k) = q at *
      generalize d k = x at *
      have HL : Hid (Lu w a l) := hl
      have HK : Hid (Kx [R] w wr) := hK
      have HX : Hid (∀ k, k < 4 → l[p + k]?.getD 0 = hd (d k)) := hx
      clear hl hK hlr hr h hk16 hd16 hx
      go_wp2_with (first | (go_at_call 71; refine cn.mono ?_; rintro e w1 ⟨rfl, hh1, hk1⟩) | (go_at_call 107; refine (ch _).mono ?_; rintro e w2 ⟨rfl, rfl⟩))
      have e16 : bits .or .u16 ((v : Int) * 16) (x : Int) = v * 16 + x := bits_join .u16 16 (by decide) wraps16 4 ((v : Int) * 16) x (by omega) (by omega) (by omega) (by omega) (by omega) (by omega)
      go_roundw
      case rel => exact ⟨k + 1, by omega, by rw [e16, HV.out]; simp, by go_num, hh1, HK.out.same hk1⟩
      case measure => simp [intOf]; omega
    · obtain rfl : k = 4 := by omega
      clear hl h hx hk16 hd16
      go_wp2
      go_ret
      exact ⟨rfl, hr, hK⟩
end Go.Proofs.YtpaaladlddifjaaGreatDoor
