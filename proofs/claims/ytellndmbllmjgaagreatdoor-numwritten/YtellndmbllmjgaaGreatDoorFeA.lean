/- The walk of fmtEFG, at the shortest digits and 'e'. -/
import Derived.Test.YtellndmbllmjgaaGreatDoorSd1
import Derived.Test.YtellndmbllmjgaaGreatDoorAp
import Derived.Test.YtellndmbllmjgaaGreatDoorTd
import Derived.Lib.AppendIntMem
set_option linter.unusedVariables false
namespace Go.Proofs.YtellndmbllmjgaaGreatDoor
open Go.RowKit Go.Shelf Go.Sort Fs

/-- What is written behind 'e': two digits at least. -/
def expD (a : Nat) : List Nat := if a < 10 then [48, a + 48] else if a < 100 then [a / 10 + 48, a % 10 + 48] else [a / 100 + 48, a / 10 % 10 + 48, a % 10 + 48]
def bv (b : Nat) : Value := .int .u8 (b : Int)
/-- d.ddde+xx -/
def fmtE (c0 : Nat) (rest : List Nat) (neg : Bool) (a : Nat) : List Nat := [c0] ++ (if rest = [] then [] else [46] ++ rest) ++ [101] ++ [if neg then 45 else 43] ++ expD a
theorem one_bv (l : List Nat) : ∀ u ∈ l.map bv, u.oneCell' = true := by
  intro u hu
  obtain ⟨x, _, rfl⟩ := List.mem_map.1 hu
  rfl
theorem own_as {w : World} {base n : Nat} {v : Value} {xs : List Value} {l : List Nat} (h : w.ownsRow base 5 1 v n xs) (e : xs = l.map bv) : w.ownsRow base 5 1 v l.length (l.map bv) := by
  subst e
  have e : l.length = n := by have := h.1; rw [List.length_map] at this; omega
  rw [e]
  exact h
theorem addB (b j : Nat) : (⟨b, 1, none⟩ : Addr).add j = ⟨b, 1 + j, none⟩ := by
  unfold Addr.add
  split <;> simp_all

set_option maxRecDepth 100000 in
set_option maxHeartbeats 4000000 in
theorem fmtE1_p1 (base Bf : Nat) (v : Value) (c0 a : Nat) (h1 : a < 10) (w : World) (hown' : w.ownsRow base 5 1 v 0 []) (hb : base ≤ w.heap.size) (hcell : w.cell? ⟨Bf, 0, none⟩ = some (.int .u8 (c0 : Int))) :
    Calls Tryz.prog 215 #[v, .bool false, .slice (some ⟨Bf, 0, none⟩) 32 32, .int .i64 ((a : Int) + 1), .int .i64 1, .int .i64 0, .int .u8 101, .bool true] w fun e w' => ∃ v', e = .returned v' ∧ w'.ownsRow base 5 1 v' (fmtE c0 [] false a).length ((fmtE c0 [] false a).map bv) ∧ Below base w w' := by
  have hbw : Below base w w := Below.refl _ _
  have hxe : (a : Int) + 1 - 1 = (a : Int) := by omega
  have i1 : (a : Int) < 10 := by omega
  have td1 : (a : Int).tdiv 10 = ((a / 10 : Nat) : Int) := by rw [Int.tdiv_eq_ediv_of_nonneg (by omega)]; rfl
  have td2 : (a : Int).tdiv 100 = ((a / 100 : Nat) : Int) := by rw [Int.tdiv_eq_ediv_of_nonneg (by omega)]; rfl
  have tm1 : (a : Int).tmod 10 = ((a % 10 : Nat) : Int) := by rw [Int.tmod_eq_emod_of_nonneg (by omega)]; rfl
  have b1 : a / 10 < 100 := by omega
  have b2 : a / 100 < 10 := by omega
  have b3 : a % 10 < 10 := by omega
  go_enter Tryz.func215, Tryz.ntmps215
  go_wp2_with (first | (at_builtin; refine app1 rfl _ _ rfl base _ _ _ w _ _ hown' rfl rfl (by omega) hb hbw ?_; intro v' w2 hown' hbw hk) | (at_builtin; refine app2 rfl _ _ rfl base _ _ _ w _ _ _ hown' rfl rfl (by omega) hb hbw ?_; intro v' w2 hown' hbw hk) | (at_builtin; refine app3 rfl _ _ rfl base _ _ _ w _ _ _ _ hown' rfl rfl (by omega) hb hbw ?_; intro v' w2 hown' hbw hk))
  go_ret
  refine ⟨_, rfl, own_as hown' ?_, hbw⟩
  unfold fmtE expD
  rw [if_pos h1]
  simp [bv]
  try omega
set_option maxRecDepth 100000 in
set_option maxHeartbeats 4000000 in
theorem fmtE1_p2 (base Bf : Nat) (v : Value) (c0 a : Nat) (h1 : ¬ a < 10) (h2 : a < 100) (w : World) (hown' : w.ownsRow base 5 1 v 0 []) (hb : base ≤ w.heap.size) (hcell : w.cell? ⟨Bf, 0, none⟩ = some (.int .u8 (c0 : Int))) :
    Calls Tryz.prog 215 #[v, .bool false, .slice (some ⟨Bf, 0, none⟩) 32 32, .int .i64 ((a : Int) + 1), .int .i64 1, .int .i64 0, .int .u8 101, .bool true] w fun e w' => ∃ v', e = .returned v' ∧ w'.ownsRow base 5 1 v' (fmtE c0 [] false a).length ((fmtE c0 [] false a).map bv) ∧ Below base w w' := by
  have hbw : Below base w w := Below.refl _ _
  have hxe : (a : Int) + 1 - 1 = (a : Int) := by omega
  have i1 : ¬ (a : Int) < 10 := by omega
  have i2 : (a : Int) < 100 := by omega
  have td1 : (a : Int).tdiv 10 = ((a / 10 : Nat) : Int) := by rw [Int.tdiv_eq_ediv_of_nonneg (by omega)]; rfl
  have td2 : (a : Int).tdiv 100 = ((a / 100 : Nat) : Int) := by rw [Int.tdiv_eq_ediv_of_nonneg (by omega)]; rfl
  have tm1 : (a : Int).tmod 10 = ((a % 10 : Nat) : Int) := by rw [Int.tmod_eq_emod_of_nonneg (by omega)]; rfl
  have b1 : a / 10 < 100 := by omega
  have b2 : a / 100 < 10 := by omega
  have b3 : a % 10 < 10 := by omega
  go_enter Tryz.func215, Tryz.ntmps215
  go_wp2_with (first | (at_builtin; refine app1 rfl _ _ rfl base _ _ _ w _ _ hown' rfl rfl (by omega) hb hbw ?_; intro v' w2 hown' hbw hk) | (at_builtin; refine app2 rfl _ _ rfl base _ _ _ w _ _ _ hown' rfl rfl (by omega) hb hbw ?_; intro v' w2 hown' hbw hk) | (at_builtin; refine app3 rfl _ _ rfl base _ _ _ w _ _ _ _ hown' rfl rfl (by omega) hb hbw ?_; intro v' w2 hown' hbw hk))
  go_ret
  refine ⟨_, rfl, own_as hown' ?_, hbw⟩
  unfold fmtE expD
  rw [if_neg h1, if_pos h2]
  simp [bv]
  try omega
set_option maxRecDepth 100000 in
set_option maxHeartbeats 4000000 in
theorem fmtE1_p3 (base Bf : Nat) (v : Value) (c0 a : Nat) (h1 : ¬ a < 10) (h2 : ¬ a < 100) (h3 : a < 1000) (w : World) (hown' : w.ownsRow base 5 1 v 0 []) (hb : base ≤ w.heap.size) (hcell : w.cell? ⟨Bf, 0, none⟩ = some (.int .u8 (c0 : Int))) :
    Calls Tryz.prog 215 #[v, .bool false, .slice (some ⟨Bf, 0, none⟩) 32 32, .int .i64 ((a : Int) + 1), .int .i64 1, .int .i64 0, .int .u8 101, .bool true] w fun e w' => ∃ v', e = .returned v' ∧ w'.ownsRow base 5 1 v' (fmtE c0 [] false a).length ((fmtE c0 [] false a).map bv) ∧ Below base w w' := by
  have hbw : Below base w w := Below.refl _ _
  have hxe : (a : Int) + 1 - 1 = (a : Int) := by omega
  have i1 : ¬ (a : Int) < 10 := by omega
  have i2 : ¬ (a : Int) < 100 := by omega
  have td1 : (a : Int).tdiv 10 = ((a / 10 : Nat) : Int) := by rw [Int.tdiv_eq_ediv_of_nonneg (by omega)]; rfl
  have td2 : (a : Int).tdiv 100 = ((a / 100 : Nat) : Int) := by rw [Int.tdiv_eq_ediv_of_nonneg (by omega)]; rfl
  have tm1 : (a : Int).tmod 10 = ((a % 10 : Nat) : Int) := by rw [Int.tmod_eq_emod_of_nonneg (by omega)]; rfl
  have b1 : a / 10 < 100 := by omega
  have b2 : a / 100 < 10 := by omega
  have b3 : a % 10 < 10 := by omega
  go_enter Tryz.func215, Tryz.ntmps215
  go_wp2_with (first | (at_builtin; refine app1 rfl _ _ rfl base _ _ _ w _ _ hown' rfl rfl (by omega) hb hbw ?_; intro v' w2 hown' hbw hk) | (at_builtin; refine app2 rfl _ _ rfl base _ _ _ w _ _ _ hown' rfl rfl (by omega) hb hbw ?_; intro v' w2 hown' hbw hk) | (at_builtin; refine app3 rfl _ _ rfl base _ _ _ w _ _ _ _ hown' rfl rfl (by omega) hb hbw ?_; intro v' w2 hown' hbw hk))
  go_ret
  refine ⟨_, rfl, own_as hown' ?_, hbw⟩
  unfold fmtE expD
  rw [if_neg h1, if_neg h2]
  simp [bv]
  try omega
set_option maxRecDepth 100000 in
set_option maxHeartbeats 4000000 in
theorem fmtE1_n1 (base Bf : Nat) (v : Value) (c0 a : Nat) (h0 : 0 < a) (h1 : a < 10) (w : World) (hown' : w.ownsRow base 5 1 v 0 []) (hb : base ≤ w.heap.size) (hcell : w.cell? ⟨Bf, 0, none⟩ = some (.int .u8 (c0 : Int))) :
    Calls Tryz.prog 215 #[v, .bool false, .slice (some ⟨Bf, 0, none⟩) 32 32, .int .i64 (-(a : Int) + 1), .int .i64 1, .int .i64 0, .int .u8 101, .bool true] w fun e w' => ∃ v', e = .returned v' ∧ w'.ownsRow base 5 1 v' (fmtE c0 [] true a).length ((fmtE c0 [] true a).map bv) ∧ Below base w w' := by
  have hbw : Below base w w := Below.refl _ _
  have hxe : -(a : Int) + 1 - 1 = -(a : Int) := by omega
  have hnn : - -(a : Int) = (a : Int) := by omega
  have hng : -(a : Int) < 0 := by omega
  have i1 : (a : Int) < 10 := by omega
  have td1 : (a : Int).tdiv 10 = ((a / 10 : Nat) : Int) := by rw [Int.tdiv_eq_ediv_of_nonneg (by omega)]; rfl
  have td2 : (a : Int).tdiv 100 = ((a / 100 : Nat) : Int) := by rw [Int.tdiv_eq_ediv_of_nonneg (by omega)]; rfl
  have tm1 : (a : Int).tmod 10 = ((a % 10 : Nat) : Int) := by rw [Int.tmod_eq_emod_of_nonneg (by omega)]; rfl
  have b1 : a / 10 < 100 := by omega
  have b2 : a / 100 < 10 := by omega
  have b3 : a % 10 < 10 := by omega
  go_enter Tryz.func215, Tryz.ntmps215
  go_wp2_with (first | (at_builtin; refine app1 rfl _ _ rfl base _ _ _ w _ _ hown' rfl rfl (by omega) hb hbw ?_; intro v' w2 hown' hbw hk) | (at_builtin; refine app2 rfl _ _ rfl base _ _ _ w _ _ _ hown' rfl rfl (by omega) hb hbw ?_; intro v' w2 hown' hbw hk) | (at_builtin; refine app3 rfl _ _ rfl base _ _ _ w _ _ _ _ hown' rfl rfl (by omega) hb hbw ?_; intro v' w2 hown' hbw hk))
  go_ret
  refine ⟨_, rfl, own_as hown' ?_, hbw⟩
  unfold fmtE expD
  rw [if_pos h1]
  simp [bv]
  try omega
set_option maxRecDepth 100000 in
set_option maxHeartbeats 4000000 in
theorem fmtE1_n2 (base Bf : Nat) (v : Value) (c0 a : Nat) (h0 : 0 < a) (h1 : ¬ a < 10) (h2 : a < 100) (w : World) (hown' : w.ownsRow base 5 1 v 0 []) (hb : base ≤ w.heap.size) (hcell : w.cell? ⟨Bf, 0, none⟩ = some (.int .u8 (c0 : Int))) :
    Calls Tryz.prog 215 #[v, .bool false, .slice (some ⟨Bf, 0, none⟩) 32 32, .int .i64 (-(a : Int) + 1), .int .i64 1, .int .i64 0, .int .u8 101, .bool true] w fun e w' => ∃ v', e = .returned v' ∧ w'.ownsRow base 5 1 v' (fmtE c0 [] true a).length ((fmtE c0 [] true a).map bv) ∧ Below base w w' := by
  have hbw : Below base w w := Below.refl _ _
  have hxe : -(a : Int) + 1 - 1 = -(a : Int) := by omega
  have hnn : - -(a : Int) = (a : Int) := by omega
  have hng : -(a : Int) < 0 := by omega
  have i1 : ¬ (a : Int) < 10 := by omega
  have i2 : (a : Int) < 100 := by omega
  have td1 : (a : Int).tdiv 10 = ((a / 10 : Nat) : Int) := by rw [Int.tdiv_eq_ediv_of_nonneg (by omega)]; rfl
  have td2 : (a : Int).tdiv 100 = ((a / 100 : Nat) : Int) := by rw [Int.tdiv_eq_ediv_of_nonneg (by omega)]; rfl
  have tm1 : (a : Int).tmod 10 = ((a % 10 : Nat) : Int) := by rw [Int.tmod_eq_emod_of_nonneg (by omega)]; rfl
  have b1 : a / 10 < 100 := by omega
  have b2 : a / 100 < 10 := by omega
  have b3 : a % 10 < 10 := by omega
  go_enter Tryz.func215, Tryz.ntmps215
  go_wp2_with (first | (at_builtin; refine app1 rfl _ _ rfl base _ _ _ w _ _ hown' rfl rfl (by omega) hb hbw ?_; intro v' w2 hown' hbw hk) | (at_builtin; refine app2 rfl _ _ rfl base _ _ _ w _ _ _ hown' rfl rfl (by omega) hb hbw ?_; intro v' w2 hown' hbw hk) | (at_builtin; refine app3 rfl _ _ rfl base _ _ _ w _ _ _ _ hown' rfl rfl (by omega) hb hbw ?_; intro v' w2 hown' hbw hk))
  go_ret
  refine ⟨_, rfl, own_as hown' ?_, hbw⟩
  unfold fmtE expD
  rw [if_neg h1, if_pos h2]
  simp [bv]
  try omega
set_option maxRecDepth 100000 in
set_option maxHeartbeats 4000000 in
theorem fmtE1_n3 (base Bf : Nat) (v : Value) (c0 a : Nat) (h0 : 0 < a) (h1 : ¬ a < 10) (h2 : ¬ a < 100) (h3 : a < 1000) (w : World) (hown' : w.ownsRow base 5 1 v 0 []) (hb : base ≤ w.heap.size) (hcell : w.cell? ⟨Bf, 0, none⟩ = some (.int .u8 (c0 : Int))) :
    Calls Tryz.prog 215 #[v, .bool false, .slice (some ⟨Bf, 0, none⟩) 32 32, .int .i64 (-(a : Int) + 1), .int .i64 1, .int .i64 0, .int .u8 101, .bool true] w fun e w' => ∃ v', e = .returned v' ∧ w'.ownsRow base 5 1 v' (fmtE c0 [] true a).length ((fmtE c0 [] true a).map bv) ∧ Below base w w' := by
  have hbw : Below base w w := Below.refl _ _
  have hxe : -(a : Int) + 1 - 1 = -(a : Int) := by omega
  have hnn : - -(a : Int) = (a : Int) := by omega
  have hng : -(a : Int) < 0 := by omega
  have i1 : ¬ (a : Int) < 10 := by omega
  have i2 : ¬ (a : Int) < 100 := by omega
  have td1 : (a : Int).tdiv 10 = ((a / 10 : Nat) : Int) := by rw [Int.tdiv_eq_ediv_of_nonneg (by omega)]; rfl
  have td2 : (a : Int).tdiv 100 = ((a / 100 : Nat) : Int) := by rw [Int.tdiv_eq_ediv_of_nonneg (by omega)]; rfl
  have tm1 : (a : Int).tmod 10 = ((a % 10 : Nat) : Int) := by rw [Int.tmod_eq_emod_of_nonneg (by omega)]; rfl
  have b1 : a / 10 < 100 := by omega
  have b2 : a / 100 < 10 := by omega
  have b3 : a % 10 < 10 := by omega
  go_enter Tryz.func215, Tryz.ntmps215
  go_wp2_with (first | (at_builtin; refine app1 rfl _ _ rfl base _ _ _ w _ _ hown' rfl rfl (by omega) hb hbw ?_; intro v' w2 hown' hbw hk) | (at_builtin; refine app2 rfl _ _ rfl base _ _ _ w _ _ _ hown' rfl rfl (by omega) hb hbw ?_; intro v' w2 hown' hbw hk) | (at_builtin; refine app3 rfl _ _ rfl base _ _ _ w _ _ _ _ hown' rfl rfl (by omega) hb hbw ?_; intro v' w2 hown' hbw hk))
  go_ret
  refine ⟨_, rfl, own_as hown' ?_, hbw⟩
  unfold fmtE expD
  rw [if_neg h1, if_neg h2]
  simp [bv]
  try omega
end Go.Proofs.YtellndmbllmjgaaGreatDoor
/- The walk of fmtEFG, at the shortest digits and 'e', of more digits than one. -/
set_option linter.unusedVariables false
namespace Go.Proofs.YtellndmbllmjgaaGreatDoor
open Go.RowKit Go.Shelf Go.Sort Fs

set_option maxRecDepth 100000 in
set_option maxHeartbeats 4000000 in
theorem fmtE2_p1 (base Bf r : Nat) (v : Value) (C : Array Value) (fr : Nat × Nat) (c0 a : Nat) (rest : List Nat) (hr0 : 0 < r) (hr1 : r ≤ 31) (hrl : rest.length = r) (h1 : a < 10) (w : World) (hown' : w.ownsRow base 5 1 v 0 []) (hb : base ≤ w.heap.size) (hB : w.heap[Bf]? = some (Obj.cells C 234 fr)) (hcell : w.cell? ⟨Bf, 0, none⟩ = some (.int .u8 (c0 : Int)))
    (hrest : ∀ (j : Nat) u, (rest.map bv)[j]? = some u → C[1 + j]? = some u) :
    Calls Tryz.prog 215 #[v, .bool false, .slice (some ⟨Bf, 0, none⟩) 32 32, .int .i64 ((a : Int) + 1), .int .i64 ((r : Int) + 1), .int .i64 (r : Int), .int .u8 101, .bool true] w fun e w' => ∃ v', e = .returned v' ∧ w'.ownsRow base 5 1 v' (fmtE c0 rest false a).length ((fmtE c0 rest false a).map bv) ∧ Below base w w' := by
  have hbw : Below base w w := Below.refl _ _
  have hk : Kept5 w w := Kept5.refl _
  have hxe : (a : Int) + 1 - 1 = (a : Int) := by omega
  have i1 : (a : Int) < 10 := by omega
  have td1 : (a : Int).tdiv 10 = ((a / 10 : Nat) : Int) := by rw [Int.tdiv_eq_ediv_of_nonneg (by omega)]; rfl
  have td2 : (a : Int).tdiv 100 = ((a / 100 : Nat) : Int) := by rw [Int.tdiv_eq_ediv_of_nonneg (by omega)]; rfl
  have tm1 : (a : Int).tmod 10 = ((a % 10 : Nat) : Int) := by rw [Int.tmod_eq_emod_of_nonneg (by omega)]; rfl
  have b1 : a / 10 < 100 := by omega
  have b2 : a / 100 < 10 := by omega
  have b3 : a % 10 < 10 := by omega
  have j1 : ((r : Int) + 1 == 0) = false := by rw [beq_eq_false_iff_ne]; omega
  have hne : rest ≠ [] := fun e => by rw [e] at hrl; simp at hrl; omega
  have HE : Hid (rest ≠ []) := hne
  have HB : Hid (w.heap[Bf]? = some (Obj.cells C 234 fr)) := hB
  have HR : Hid (∀ (j : Nat) u, (rest.map bv)[j]? = some u → C[1 + j]? = some u) := hrest
  have HL : Hid (rest.length = r) := hrl
  clear hB hrest hrl hne
  go_enter Tryz.func215, Tryz.ntmps215
  go_wp2_with (first | (at_builtin; refine app1 rfl _ _ rfl base _ _ _ w _ _ hown' rfl rfl (by omega) hb hbw ?_; intro v' w2 hown' hbw hk'; have hk := hk.trans hk'; clear hk') | (at_builtin; refine app2 rfl _ _ rfl base _ _ _ w _ _ _ hown' rfl rfl (by omega) hb hbw ?_; intro v' w2 hown' hbw hk'; have hk := hk.trans hk'; clear hk') | (at_builtin; refine app3 rfl _ _ rfl base _ _ _ w _ _ _ _ hown' rfl rfl (by omega) hb hbw ?_; intro v' w2 hown' hbw hk'; have hk := hk.trans hk'; clear hk') | (at_builtin; refine app_sl rfl _ _ rfl base _ r _ _ (rest.map bv) w _ ⟨Bf, 1, none⟩ 31 hown' rfl rfl (by rw [List.length_map]; exact HL.out) (fun j u hj => by rw [addB, hk.cell HB.out (by decide)]; exact HR.out j u hj) (one_bv rest) (by omega) hb hbw ?_; intro v' w2 hown' hbw hk'; have hk := hk.trans hk'; clear hk'))
  refine wp_loop_once ?_
  go_wp2_with (first | (at_builtin; refine app1 rfl _ _ rfl base _ _ _ w _ _ hown' rfl rfl (by omega) hb hbw ?_; intro v' w2 hown' hbw hk'; have hk := hk.trans hk'; clear hk') | (at_builtin; refine app2 rfl _ _ rfl base _ _ _ w _ _ _ hown' rfl rfl (by omega) hb hbw ?_; intro v' w2 hown' hbw hk'; have hk := hk.trans hk'; clear hk') | (at_builtin; refine app3 rfl _ _ rfl base _ _ _ w _ _ _ _ hown' rfl rfl (by omega) hb hbw ?_; intro v' w2 hown' hbw hk'; have hk := hk.trans hk'; clear hk'))
  go_ret
  refine ⟨_, rfl, own_as hown' ?_, hbw⟩
  unfold fmtE expD
  rw [if_neg HE.out, if_pos h1]
  simp [bv]
  try omega
set_option maxRecDepth 100000 in
set_option maxHeartbeats 4000000 in
theorem fmtE2_p2 (base Bf r : Nat) (v : Value) (C : Array Value) (fr : Nat × Nat) (c0 a : Nat) (rest : List Nat) (hr0 : 0 < r) (hr1 : r ≤ 31) (hrl : rest.length = r) (h1 : ¬ a < 10) (h2 : a < 100) (w : World) (hown' : w.ownsRow base 5 1 v 0 []) (hb : base ≤ w.heap.size) (hB : w.heap[Bf]? = some (Obj.cells C 234 fr)) (hcell : w.cell? ⟨Bf, 0, none⟩ = some (.int .u8 (c0 : Int)))
    (hrest : ∀ (j : Nat) u, (rest.map bv)[j]? = some u → C[1 + j]? = some u) :
    Calls Tryz.prog 215 #[v, .bool false, .slice (some ⟨Bf, 0, none⟩) 32 32, .int .i64 ((a : Int) + 1), .int .i64 ((r : Int) + 1), .int .i64 (r : Int), .int .u8 101, .bool true] w fun e w' => ∃ v', e = .returned v' ∧ w'.ownsRow base 5 1 v' (fmtE c0 rest false a).length ((fmtE c0 rest false a).map bv) ∧ Below base w w' := by
  have hbw : Below base w w := Below.refl _ _
  have hk : Kept5 w w := Kept5.refl _
  have hxe : (a : Int) + 1 - 1 = (a : Int) := by omega
  have i1 : ¬ (a : Int) < 10 := by omega
  have i2 : (a : Int) < 100 := by omega
  have td1 : (a : Int).tdiv 10 = ((a / 10 : Nat) : Int) := by rw [Int.tdiv_eq_ediv_of_nonneg (by omega)]; rfl
  have td2 : (a : Int).tdiv 100 = ((a / 100 : Nat) : Int) := by rw [Int.tdiv_eq_ediv_of_nonneg (by omega)]; rfl
  have tm1 : (a : Int).tmod 10 = ((a % 10 : Nat) : Int) := by rw [Int.tmod_eq_emod_of_nonneg (by omega)]; rfl
  have b1 : a / 10 < 100 := by omega
  have b2 : a / 100 < 10 := by omega
  have b3 : a % 10 < 10 := by omega
  have j1 : ((r : Int) + 1 == 0) = false := by rw [beq_eq_false_iff_ne]; omega
  have hne : rest ≠ [] := fun e => by rw [e] at hrl; simp at hrl; omega
  have HE : Hid (rest ≠ []) := hne
  have HB : Hid (w.heap[Bf]? = some (Obj.cells C 234 fr)) := hB
  have HR : Hid (∀ (j : Nat) u, (rest.map bv)[j]? = some u → C[1 + j]? = some u) := hrest
  have HL : Hid (rest.length = r) := hrl
  clear hB hrest hrl hne
  go_enter Tryz.func215, Tryz.ntmps215
  go_wp2_with (first | (at_builtin; refine app1 rfl _ _ rfl base _ _ _ w _ _ hown' rfl rfl (by omega) hb hbw ?_; intro v' w2 hown' hbw hk'; have hk := hk.trans hk'; clear hk') | (at_builtin; refine app2 rfl _ _ rfl base _ _ _ w _ _ _ hown' rfl rfl (by omega) hb hbw ?_; intro v' w2 hown' hbw hk'; have hk := hk.trans hk'; clear hk') | (at_builtin; refine app3 rfl _ _ rfl base _ _ _ w _ _ _ _ hown' rfl rfl (by omega) hb hbw ?_; intro v' w2 hown' hbw hk'; have hk := hk.trans hk'; clear hk') | (at_builtin; refine app_sl rfl _ _ rfl base _ r _ _ (rest.map bv) w _ ⟨Bf, 1, none⟩ 31 hown' rfl rfl (by rw [List.length_map]; exact HL.out) (fun j u hj => by rw [addB, hk.cell HB.out (by decide)]; exact HR.out j u hj) (one_bv rest) (by omega) hb hbw ?_; intro v' w2 hown' hbw hk'; have hk := hk.trans hk'; clear hk'))
  refine wp_loop_once ?_
  go_wp2_with (first | (at_builtin; refine app1 rfl _ _ rfl base _ _ _ w _ _ hown' rfl rfl (by omega) hb hbw ?_; intro v' w2 hown' hbw hk'; have hk := hk.trans hk'; clear hk') | (at_builtin; refine app2 rfl _ _ rfl base _ _ _ w _ _ _ hown' rfl rfl (by omega) hb hbw ?_; intro v' w2 hown' hbw hk'; have hk := hk.trans hk'; clear hk') | (at_builtin; refine app3 rfl _ _ rfl base _ _ _ w _ _ _ _ hown' rfl rfl (by omega) hb hbw ?_; intro v' w2 hown' hbw hk'; have hk := hk.trans hk'; clear hk'))
  go_ret
  refine ⟨_, rfl, own_as hown' ?_, hbw⟩
  unfold fmtE expD
  rw [if_neg HE.out, if_neg h1, if_pos h2]
  simp [bv]
  try omega
set_option maxRecDepth 100000 in
set_option maxHeartbeats 4000000 in
theorem fmtE2_p3 (base Bf r : Nat) (v : Value) (C : Array Value) (fr : Nat × Nat) (c0 a : Nat) (rest : List Nat) (hr0 : 0 < r) (hr1 : r ≤ 31) (hrl : rest.length = r) (h1 : ¬ a < 10) (h2 : ¬ a < 100) (h3 : a < 1000) (w : World) (hown' : w.ownsRow base 5 1 v 0 []) (hb : base ≤ w.heap.size) (hB : w.heap[Bf]? = some (Obj.cells C 234 fr)) (hcell : w.cell? ⟨Bf, 0, none⟩ = some (.int .u8 (c0 : Int)))
    (hrest : ∀ (j : Nat) u, (rest.map bv)[j]? = some u → C[1 + j]? = some u) :
    Calls Tryz.prog 215 #[v, .bool false, .slice (some ⟨Bf, 0, none⟩) 32 32, .int .i64 ((a : Int) + 1), .int .i64 ((r : Int) + 1), .int .i64 (r : Int), .int .u8 101, .bool true] w fun e w' => ∃ v', e = .returned v' ∧ w'.ownsRow base 5 1 v' (fmtE c0 rest false a).length ((fmtE c0 rest false a).map bv) ∧ Below base w w' := by
  have hbw : Below base w w := Below.refl _ _
  have hk : Kept5 w w := Kept5.refl _
  have hxe : (a : Int) + 1 - 1 = (a : Int) := by omega
  have i1 : ¬ (a : Int) < 10 := by omega
  have i2 : ¬ (a : Int) < 100 := by omega
  have td1 : (a : Int).tdiv 10 = ((a / 10 : Nat) : Int) := by rw [Int.tdiv_eq_ediv_of_nonneg (by omega)]; rfl
  have td2 : (a : Int).tdiv 100 = ((a / 100 : Nat) : Int) := by rw [Int.tdiv_eq_ediv_of_nonneg (by omega)]; rfl
  have tm1 : (a : Int).tmod 10 = ((a % 10 : Nat) : Int) := by rw [Int.tmod_eq_emod_of_nonneg (by omega)]; rfl
  have b1 : a / 10 < 100 := by omega
  have b2 : a / 100 < 10 := by omega
  have b3 : a % 10 < 10 := by omega
  have j1 : ((r : Int) + 1 == 0) = false := by rw [beq_eq_false_iff_ne]; omega
  have hne : rest ≠ [] := fun e => by rw [e] at hrl; simp at hrl; omega
  have HE : Hid (rest ≠ []) := hne
  have HB : Hid (w.heap[Bf]? = some (Obj.cells C 234 fr)) := hB
  have HR : Hid (∀ (j : Nat) u, (rest.map bv)[j]? = some u → C[1 + j]? = some u) := hrest
  have HL : Hid (rest.length = r) := hrl
  clear hB hrest hrl hne
  go_enter Tryz.func215, Tryz.ntmps215
  go_wp2_with (first | (at_builtin; refine app1 rfl _ _ rfl base _ _ _ w _ _ hown' rfl rfl (by omega) hb hbw ?_; intro v' w2 hown' hbw hk'; have hk := hk.trans hk'; clear hk') | (at_builtin; refine app2 rfl _ _ rfl base _ _ _ w _ _ _ hown' rfl rfl (by omega) hb hbw ?_; intro v' w2 hown' hbw hk'; have hk := hk.trans hk'; clear hk') | (at_builtin; refine app3 rfl _ _ rfl base _ _ _ w _ _ _ _ hown' rfl rfl (by omega) hb hbw ?_; intro v' w2 hown' hbw hk'; have hk := hk.trans hk'; clear hk') | (at_builtin; refine app_sl rfl _ _ rfl base _ r _ _ (rest.map bv) w _ ⟨Bf, 1, none⟩ 31 hown' rfl rfl (by rw [List.length_map]; exact HL.out) (fun j u hj => by rw [addB, hk.cell HB.out (by decide)]; exact HR.out j u hj) (one_bv rest) (by omega) hb hbw ?_; intro v' w2 hown' hbw hk'; have hk := hk.trans hk'; clear hk'))
  refine wp_loop_once ?_
  go_wp2_with (first | (at_builtin; refine app1 rfl _ _ rfl base _ _ _ w _ _ hown' rfl rfl (by omega) hb hbw ?_; intro v' w2 hown' hbw hk'; have hk := hk.trans hk'; clear hk') | (at_builtin; refine app2 rfl _ _ rfl base _ _ _ w _ _ _ hown' rfl rfl (by omega) hb hbw ?_; intro v' w2 hown' hbw hk'; have hk := hk.trans hk'; clear hk') | (at_builtin; refine app3 rfl _ _ rfl base _ _ _ w _ _ _ _ hown' rfl rfl (by omega) hb hbw ?_; intro v' w2 hown' hbw hk'; have hk := hk.trans hk'; clear hk'))
  go_ret
  refine ⟨_, rfl, own_as hown' ?_, hbw⟩
  unfold fmtE expD
  rw [if_neg HE.out, if_neg h1, if_neg h2]
  simp [bv]
  try omega
set_option maxRecDepth 100000 in
set_option maxHeartbeats 4000000 in
theorem fmtE2_n1 (base Bf r : Nat) (v : Value) (C : Array Value) (fr : Nat × Nat) (c0 a : Nat) (rest : List Nat) (hr0 : 0 < r) (hr1 : r ≤ 31) (hrl : rest.length = r) (h0 : 0 < a) (h1 : a < 10) (w : World) (hown' : w.ownsRow base 5 1 v 0 []) (hb : base ≤ w.heap.size) (hB : w.heap[Bf]? = some (Obj.cells C 234 fr)) (hcell : w.cell? ⟨Bf, 0, none⟩ = some (.int .u8 (c0 : Int)))
    (hrest : ∀ (j : Nat) u, (rest.map bv)[j]? = some u → C[1 + j]? = some u) :
    Calls Tryz.prog 215 #[v, .bool false, .slice (some ⟨Bf, 0, none⟩) 32 32, .int .i64 (-(a : Int) + 1), .int .i64 ((r : Int) + 1), .int .i64 (r : Int), .int .u8 101, .bool true] w fun e w' => ∃ v', e = .returned v' ∧ w'.ownsRow base 5 1 v' (fmtE c0 rest true a).length ((fmtE c0 rest true a).map bv) ∧ Below base w w' := by
  have hbw : Below base w w := Below.refl _ _
  have hk : Kept5 w w := Kept5.refl _
  have hxe : -(a : Int) + 1 - 1 = -(a : Int) := by omega
  have hnn : - -(a : Int) = (a : Int) := by omega
  have hng : -(a : Int) < 0 := by omega
  have i1 : (a : Int) < 10 := by omega
  have td1 : (a : Int).tdiv 10 = ((a / 10 : Nat) : Int) := by rw [Int.tdiv_eq_ediv_of_nonneg (by omega)]; rfl
  have td2 : (a : Int).tdiv 100 = ((a / 100 : Nat) : Int) := by rw [Int.tdiv_eq_ediv_of_nonneg (by omega)]; rfl
  have tm1 : (a : Int).tmod 10 = ((a % 10 : Nat) : Int) := by rw [Int.tmod_eq_emod_of_nonneg (by omega)]; rfl
  have b1 : a / 10 < 100 := by omega
  have b2 : a / 100 < 10 := by omega
  have b3 : a % 10 < 10 := by omega
  have j1 : ((r : Int) + 1 == 0) = false := by rw [beq_eq_false_iff_ne]; omega
  have hne : rest ≠ [] := fun e => by rw [e] at hrl; simp at hrl; omega
  have HE : Hid (rest ≠ []) := hne
  have HB : Hid (w.heap[Bf]? = some (Obj.cells C 234 fr)) := hB
  have HR : Hid (∀ (j : Nat) u, (rest.map bv)[j]? = some u → C[1 + j]? = some u) := hrest
  have HL : Hid (rest.length = r) := hrl
  clear hB hrest hrl hne
  go_enter Tryz.func215, Tryz.ntmps215
  go_wp2_with (first | (at_builtin; refine app1 rfl _ _ rfl base _ _ _ w _ _ hown' rfl rfl (by omega) hb hbw ?_; intro v' w2 hown' hbw hk'; have hk := hk.trans hk'; clear hk') | (at_builtin; refine app2 rfl _ _ rfl base _ _ _ w _ _ _ hown' rfl rfl (by omega) hb hbw ?_; intro v' w2 hown' hbw hk'; have hk := hk.trans hk'; clear hk') | (at_builtin; refine app3 rfl _ _ rfl base _ _ _ w _ _ _ _ hown' rfl rfl (by omega) hb hbw ?_; intro v' w2 hown' hbw hk'; have hk := hk.trans hk'; clear hk') | (at_builtin; refine app_sl rfl _ _ rfl base _ r _ _ (rest.map bv) w _ ⟨Bf, 1, none⟩ 31 hown' rfl rfl (by rw [List.length_map]; exact HL.out) (fun j u hj => by rw [addB, hk.cell HB.out (by decide)]; exact HR.out j u hj) (one_bv rest) (by omega) hb hbw ?_; intro v' w2 hown' hbw hk'; have hk := hk.trans hk'; clear hk'))
  refine wp_loop_once ?_
  go_wp2_with (first | (at_builtin; refine app1 rfl _ _ rfl base _ _ _ w _ _ hown' rfl rfl (by omega) hb hbw ?_; intro v' w2 hown' hbw hk'; have hk := hk.trans hk'; clear hk') | (at_builtin; refine app2 rfl _ _ rfl base _ _ _ w _ _ _ hown' rfl rfl (by omega) hb hbw ?_; intro v' w2 hown' hbw hk'; have hk := hk.trans hk'; clear hk') | (at_builtin; refine app3 rfl _ _ rfl base _ _ _ w _ _ _ _ hown' rfl rfl (by omega) hb hbw ?_; intro v' w2 hown' hbw hk'; have hk := hk.trans hk'; clear hk'))
  go_ret
  refine ⟨_, rfl, own_as hown' ?_, hbw⟩
  unfold fmtE expD
  rw [if_neg HE.out, if_pos h1]
  simp [bv]
  try omega
set_option maxRecDepth 100000 in
set_option maxHeartbeats 4000000 in
theorem fmtE2_n2 (base Bf r : Nat) (v : Value) (C : Array Value) (fr : Nat × Nat) (c0 a : Nat) (rest : List Nat) (hr0 : 0 < r) (hr1 : r ≤ 31) (hrl : rest.length = r) (h0 : 0 < a) (h1 : ¬ a < 10) (h2 : a < 100) (w : World) (hown' : w.ownsRow base 5 1 v 0 []) (hb : base ≤ w.heap.size) (hB : w.heap[Bf]? = some (Obj.cells C 234 fr)) (hcell : w.cell? ⟨Bf, 0, none⟩ = some (.int .u8 (c0 : Int)))
    (hrest : ∀ (j : Nat) u, (rest.map bv)[j]? = some u → C[1 + j]? = some u) :
    Calls Tryz.prog 215 #[v, .bool false, .slice (some ⟨Bf, 0, none⟩) 32 32, .int .i64 (-(a : Int) + 1), .int .i64 ((r : Int) + 1), .int .i64 (r : Int), .int .u8 101, .bool true] w fun e w' => ∃ v', e = .returned v' ∧ w'.ownsRow base 5 1 v' (fmtE c0 rest true a).length ((fmtE c0 rest true a).map bv) ∧ Below base w w' := by
  have hbw : Below base w w := Below.refl _ _
  have hk : Kept5 w w := Kept5.refl _
  have hxe : -(a : Int) + 1 - 1 = -(a : Int) := by omega
  have hnn : - -(a : Int) = (a : Int) := by omega
  have hng : -(a : Int) < 0 := by omega
  have i1 : ¬ (a : Int) < 10 := by omega
  have i2 : (a : Int) < 100 := by omega
  have td1 : (a : Int).tdiv 10 = ((a / 10 : Nat) : Int) := by rw [Int.tdiv_eq_ediv_of_nonneg (by omega)]; rfl
  have td2 : (a : Int).tdiv 100 = ((a / 100 : Nat) : Int) := by rw [Int.tdiv_eq_ediv_of_nonneg (by omega)]; rfl
  have tm1 : (a : Int).tmod 10 = ((a % 10 : Nat) : Int) := by rw [Int.tmod_eq_emod_of_nonneg (by omega)]; rfl
  have b1 : a / 10 < 100 := by omega
  have b2 : a / 100 < 10 := by omega
  have b3 : a % 10 < 10 := by omega
  have j1 : ((r : Int) + 1 == 0) = false := by rw [beq_eq_false_iff_ne]; omega
  have hne : rest ≠ [] := fun e => by rw [e] at hrl; simp at hrl; omega
  have HE : Hid (rest ≠ []) := hne
  have HB : Hid (w.heap[Bf]? = some (Obj.cells C 234 fr)) := hB
  have HR : Hid (∀ (j : Nat) u, (rest.map bv)[j]? = some u → C[1 + j]? = some u) := hrest
  have HL : Hid (rest.length = r) := hrl
  clear hB hrest hrl hne
  go_enter Tryz.func215, Tryz.ntmps215
  go_wp2_with (first | (at_builtin; refine app1 rfl _ _ rfl base _ _ _ w _ _ hown' rfl rfl (by omega) hb hbw ?_; intro v' w2 hown' hbw hk'; have hk := hk.trans hk'; clear hk') | (at_builtin; refine app2 rfl _ _ rfl base _ _ _ w _ _ _ hown' rfl rfl (by omega) hb hbw ?_; intro v' w2 hown' hbw hk'; have hk := hk.trans hk'; clear hk') | (at_builtin; refine app3 rfl _ _ rfl base _ _ _ w _ _ _ _ hown' rfl rfl (by omega) hb hbw ?_; intro v' w2 hown' hbw hk'; have hk := hk.trans hk'; clear hk') | (at_builtin; refine app_sl rfl _ _ rfl base _ r _ _ (rest.map bv) w _ ⟨Bf, 1, none⟩ 31 hown' rfl rfl (by rw [List.length_map]; exact HL.out) (fun j u hj => by rw [addB, hk.cell HB.out (by decide)]; exact HR.out j u hj) (one_bv rest) (by omega) hb hbw ?_; intro v' w2 hown' hbw hk'; have hk := hk.trans hk'; clear hk'))
  refine wp_loop_once ?_
  go_wp2_with (first | (at_builtin; refine app1 rfl _ _ rfl base _ _ _ w _ _ hown' rfl rfl (by omega) hb hbw ?_; intro v' w2 hown' hbw hk'; have hk := hk.trans hk'; clear hk') | (at_builtin; refine app2 rfl _ _ rfl base _ _ _ w _ _ _ hown' rfl rfl (by omega) hb hbw ?_; intro v' w2 hown' hbw hk'; have hk := hk.trans hk'; clear hk') | (at_builtin; refine app3 rfl _ _ rfl base _ _ _ w _ _ _ _ hown' rfl rfl (by omega) hb hbw ?_; intro v' w2 hown' hbw hk'; have hk := hk.trans hk'; clear hk'))
  go_ret
  refine ⟨_, rfl, own_as hown' ?_, hbw⟩
  unfold fmtE expD
  rw [if_neg HE.out, if_neg h1, if_pos h2]
  simp [bv]
  try omega
set_option maxRecDepth 100000 in
set_option maxHeartbeats 4000000 in
theorem fmtE2_n3 (base Bf r : Nat) (v : Value) (C : Array Value) (fr : Nat × Nat) (c0 a : Nat) (rest : List Nat) (hr0 : 0 < r) (hr1 : r ≤ 31) (hrl : rest.length = r) (h0 : 0 < a) (h1 : ¬ a < 10) (h2 : ¬ a < 100) (h3 : a < 1000) (w : World) (hown' : w.ownsRow base 5 1 v 0 []) (hb : base ≤ w.heap.size) (hB : w.heap[Bf]? = some (Obj.cells C 234 fr)) (hcell : w.cell? ⟨Bf, 0, none⟩ = some (.int .u8 (c0 : Int)))
    (hrest : ∀ (j : Nat) u, (rest.map bv)[j]? = some u → C[1 + j]? = some u) :
    Calls Tryz.prog 215 #[v, .bool false, .slice (some ⟨Bf, 0, none⟩) 32 32, .int .i64 (-(a : Int) + 1), .int .i64 ((r : Int) + 1), .int .i64 (r : Int), .int .u8 101, .bool true] w fun e w' => ∃ v', e = .returned v' ∧ w'.ownsRow base 5 1 v' (fmtE c0 rest true a).length ((fmtE c0 rest true a).map bv) ∧ Below base w w' := by
  have hbw : Below base w w := Below.refl _ _
  have hk : Kept5 w w := Kept5.refl _
  have hxe : -(a : Int) + 1 - 1 = -(a : Int) := by omega
  have hnn : - -(a : Int) = (a : Int) := by omega
  have hng : -(a : Int) < 0 := by omega
  have i1 : ¬ (a : Int) < 10 := by omega
  have i2 : ¬ (a : Int) < 100 := by omega
  have td1 : (a : Int).tdiv 10 = ((a / 10 : Nat) : Int) := by rw [Int.tdiv_eq_ediv_of_nonneg (by omega)]; rfl
  have td2 : (a : Int).tdiv 100 = ((a / 100 : Nat) : Int) := by rw [Int.tdiv_eq_ediv_of_nonneg (by omega)]; rfl
  have tm1 : (a : Int).tmod 10 = ((a % 10 : Nat) : Int) := by rw [Int.tmod_eq_emod_of_nonneg (by omega)]; rfl
  have b1 : a / 10 < 100 := by omega
  have b2 : a / 100 < 10 := by omega
  have b3 : a % 10 < 10 := by omega
  have j1 : ((r : Int) + 1 == 0) = false := by rw [beq_eq_false_iff_ne]; omega
  have hne : rest ≠ [] := fun e => by rw [e] at hrl; simp at hrl; omega
  have HE : Hid (rest ≠ []) := hne
  have HB : Hid (w.heap[Bf]? = some (Obj.cells C 234 fr)) := hB
  have HR : Hid (∀ (j : Nat) u, (rest.map bv)[j]? = some u → C[1 + j]? = some u) := hrest
  have HL : Hid (rest.length = r) := hrl
  clear hB hrest hrl hne
  go_enter Tryz.func215, Tryz.ntmps215
  go_wp2_with (first | (at_builtin; refine app1 rfl _ _ rfl base _ _ _ w _ _ hown' rfl rfl (by omega) hb hbw ?_; intro v' w2 hown' hbw hk'; have hk := hk.trans hk'; clear hk') | (at_builtin; refine app2 rfl _ _ rfl base _ _ _ w _ _ _ hown' rfl rfl (by omega) hb hbw ?_; intro v' w2 hown' hbw hk'; have hk := hk.trans hk'; clear hk') | (at_builtin; refine app3 rfl _ _ rfl base _ _ _ w _ _ _ _ hown' rfl rfl (by omega) hb hbw ?_; intro v' w2 hown' hbw hk'; have hk := hk.trans hk'; clear hk') | (at_builtin; refine app_sl rfl _ _ rfl base _ r _ _ (rest.map bv) w _ ⟨Bf, 1, none⟩ 31 hown' rfl rfl (by rw [List.length_map]; exact HL.out) (fun j u hj => by rw [addB, hk.cell HB.out (by decide)]; exact HR.out j u hj) (one_bv rest) (by omega) hb hbw ?_; intro v' w2 hown' hbw hk'; have hk := hk.trans hk'; clear hk'))
  refine wp_loop_once ?_
  go_wp2_with (first | (at_builtin; refine app1 rfl _ _ rfl base _ _ _ w _ _ hown' rfl rfl (by omega) hb hbw ?_; intro v' w2 hown' hbw hk'; have hk := hk.trans hk'; clear hk') | (at_builtin; refine app2 rfl _ _ rfl base _ _ _ w _ _ _ hown' rfl rfl (by omega) hb hbw ?_; intro v' w2 hown' hbw hk'; have hk := hk.trans hk'; clear hk') | (at_builtin; refine app3 rfl _ _ rfl base _ _ _ w _ _ _ _ hown' rfl rfl (by omega) hb hbw ?_; intro v' w2 hown' hbw hk'; have hk := hk.trans hk'; clear hk'))
  go_ret
  refine ⟨_, rfl, own_as hown' ?_, hbw⟩
  unfold fmtE expD
  rw [if_neg HE.out, if_neg h1, if_neg h2]
  simp [bv]
  try omega
end Go.Proofs.YtellndmbllmjgaaGreatDoor
/- fmtEFG at the shortest digits and 'e', all in one; what a world holds. -/
set_option linter.unusedVariables false
namespace Go.Proofs.YtellndmbllmjgaaGreatDoor
open Go.RowKit Go.Shelf Go.Sort Fs

/-- What is written of digits and an exponent. -/
def fmtS (D : List Nat) (x : Int) : List Nat := fmtE (D.headD 0) D.tail (decide (x < 0)) x.natAbs
theorem fmtE_any (base Bf K : Nat) (v : Value) (C : Array Value) (fr : Nat × Nat) (D : List Nat) (hD : D.length = K + 1) (hK : K ≤ 31) (x : Int) (hx : -1000 < x) (hx2 : x < 1000) (w : World) (hown : w.ownsRow base 5 1 v 0 []) (hb : base ≤ w.heap.size) (hB : w.heap[Bf]? = some (Obj.cells C 234 fr))
    (hc : ∀ (j : Nat) c, D[j]? = some c → C[j]? = some (bv c)) :
    Calls Tryz.prog 215 #[v, .bool false, .slice (some ⟨Bf, 0, none⟩) 32 32, .int .i64 (x + 1), .int .i64 ((K : Int) + 1), .int .i64 (K : Int), .int .u8 101, .bool true] w fun e w' => ∃ v', e = .returned v' ∧ w'.ownsRow base 5 1 v' (fmtS D x).length ((fmtS D x).map bv) ∧ Below base w w' := by
  obtain ⟨c0, rest, rfl⟩ : ∃ c0 rest, D = c0 :: rest := by
    cases D with
    | nil => simp at hD
    | cons a l => exact ⟨a, l, rfl⟩
  have hr : rest.length = K := by simpa using hD
  have hcell : w.cell? ⟨Bf, 0, none⟩ = some (.int .u8 (c0 : Int)) := by
    simp only [World.cell?, hB]
    exact hc 0 c0 rfl
  have hrest : ∀ (j : Nat) u, (rest.map bv)[j]? = some u → C[1 + j]? = some u := by
    intro j u hj
    rw [List.getElem?_map] at hj
    cases hq : rest[j]? with
    | none => rw [hq] at hj; cases hj
    | some c =>
      rw [hq] at hj
      have := hc (j + 1) c (by simpa using hq)
      rw [Nat.add_comm 1 j, this]
      simpa using hj
  have e1 : fmtS (c0 :: rest) x = fmtE c0 rest (decide (x < 0)) x.natAbs := rfl
  rw [e1]
  rcases Int.lt_or_le x 0 with hn | hn
  · rw [decide_eq_true hn]
    obtain ⟨a, rfl⟩ : ∃ a : Nat, x = -(a : Int) := ⟨x.natAbs, by omega⟩
    have e2 : (-(a : Int)).natAbs = a := by omega
    rw [e2]
    rcases Nat.eq_zero_or_pos K with hk0 | hk0
    · have hre : rest = [] := List.eq_nil_of_length_eq_zero (by omega)
      subst hk0
      subst hre
      by_cases h1 : a < 10
      · exact fmtE1_n1 base Bf v c0 a (by omega) h1 w hown hb hcell
      · by_cases h2 : a < 100
        · exact fmtE1_n2 base Bf v c0 a (by omega) h1 h2 w hown hb hcell
        · exact fmtE1_n3 base Bf v c0 a (by omega) h1 h2 (by omega) w hown hb hcell
    · by_cases h1 : a < 10
      · exact fmtE2_n1 base Bf K v C fr c0 a rest hk0 hK hr (by omega) h1 w hown hb hB hcell hrest
      · by_cases h2 : a < 100
        · exact fmtE2_n2 base Bf K v C fr c0 a rest hk0 hK hr (by omega) h1 h2 w hown hb hB hcell hrest
        · exact fmtE2_n3 base Bf K v C fr c0 a rest hk0 hK hr (by omega) h1 h2 (by omega) w hown hb hB hcell hrest
  · rw [decide_eq_false (by omega)]
    obtain ⟨a, rfl⟩ : ∃ a : Nat, x = (a : Int) := ⟨x.toNat, by omega⟩
    have e2 : (a : Int).natAbs = a := by omega
    rw [e2]
    rcases Nat.eq_zero_or_pos K with hk0 | hk0
    · have hre : rest = [] := List.eq_nil_of_length_eq_zero (by omega)
      subst hk0
      subst hre
      by_cases h1 : a < 10
      · exact fmtE1_p1 base Bf v c0 a h1 w hown hb hcell
      · by_cases h2 : a < 100
        · exact fmtE1_p2 base Bf v c0 a h1 h2 w hown hb hcell
        · exact fmtE1_p3 base Bf v c0 a h1 h2 (by omega) w hown hb hcell
    · by_cases h1 : a < 10
      · exact fmtE2_p1 base Bf K v C fr c0 a rest hk0 hK hr h1 w hown hb hB hcell hrest
      · by_cases h2 : a < 100
        · exact fmtE2_p2 base Bf K v C fr c0 a rest hk0 hK hr h1 h2 w hown hb hB hcell hrest
        · exact fmtE2_p3 base Bf K v C fr c0 a rest hk0 hK hr h1 h2 (by omega) w hown hb hB hcell hrest

/-- What a world holds of the library's variables. -/
structure Laid (w : World) : Prop where
  pow : PowTab w
  p10 : Lib.TabIs Tryz.prog w "internal/strconv.uint64pow10" .u64 Lib.pow10Tab
  most : ∃ m, w.cell? ⟨6, 0, none⟩ = some (.int .i64 m)
theorem cell_block {w : World} {b j : Nat} {u : Value} (h : w.cell? ⟨b, j, none⟩ = some u) : b < w.heap.size := by
  rcases Nat.lt_or_ge b w.heap.size with h1 | h1
  · exact h1
  · simp [World.cell?, Array.getElem?_eq_none h1] at h
theorem Laid.size {w : World} (h : Laid w) : 11 < w.heap.size := by
  obtain ⟨hi, lo, hr, _⟩ := h.pow 0 (by omega)
  exact cell_block hr.1
theorem Laid.below {w w' : World} (h : Laid w) (hb : Below w.heap.size w w') : Laid w' := by
  have hs := h.size
  refine ⟨?_, ?_, ?_⟩
  · intro i hi
    obtain ⟨a, b, hr, h1⟩ := h.pow i hi
    refine ⟨a, b, ⟨?_, ?_⟩, h1⟩
    · exact (hb.cell (p := ⟨11, i * 2, none⟩) hs).trans hr.1
    · exact (hb.cell (p := ⟨11, i * 2 + 1, none⟩) hs).trans hr.2
  · exact Lib.tabBelow_of_tabIs h.p10 w' hb
  · obtain ⟨m, hm⟩ := h.most
    exact ⟨m, (hb.cell (p := ⟨6, 0, none⟩) (show 6 < w.heap.size by omega)).trans hm⟩
theorem below_putRow {n B : Nat} {w w1 : World} (dk : Array UInt8) (h : Below n w w1) (hB : n ≤ B) : Below n w (putRow encB w1 B 0 dk) := by
  refine ⟨h.os, h.tape, h.output, ?_, ?_⟩
  · have : (putRow encB w1 B 0 dk).heap.size = w1.heap.size := by simp [putRow, mapBlock]
    rw [this]
    exact h.size
  · intro k hk
    have : (putRow encB w1 B 0 dk).heap[k]? = w1.heap[k]? := by
      simp only [putRow, mapBlock, Array.getElem?_modify]
      rw [if_neg (by omega)]
    rw [this]
    exact h.block k hk
theorem heap_putRow {B : Nat} {w : World} {C : Array Value} {t : TypeId} {fr : Nat × Nat} (dk : Array UInt8) (h : w.heap[B]? = some (Obj.cells C t fr)) : ∃ C', (putRow encB w B 0 dk).heap[B]? = some (Obj.cells C' t fr) := by
  refine ⟨putCells encB 0 dk C, ?_⟩
  simp only [putRow, mapBlock, Array.getElem?_modify, if_true]
  rw [h]
  rfl
theorem below_drewN {n m : Nat} {w w1 : World} (h : Below n w w1) : Below n w (w1.drewN m) := ⟨h.os, h.tape, h.output, h.size, h.block⟩
theorem ownsRow_later {w w' : World} {base : Nat} {e : TypeId} {size : Nat} {v : Value} {n : Nat} {xs : List Value} (h : w.ownsRow base e size v n xs) (hb : Below w.heap.size w w') : w'.ownsRow base e size v n xs := by
  refine ⟨h.1, ?_⟩
  rcases h.2 with hn | ⟨g, cap, cur, hv, hbg, hg, rest⟩
  · exact .inl hn
  · refine .inr ⟨g, cap, cur, hv, hbg, ?_, rest⟩
    rw [hb.block g (lt_of_get hg)]
    exact hg
end Go.Proofs.YtellndmbllmjgaaGreatDoor
