/- The walk of fmtEFG, at the shortest digits and 'e', of more digits than one. -/
import Derived.Test.YtellndmbllmjgaaGreatDoorCApx
import Derived.Test.YtellndmbllmjgaaGreatDoorCUs4x
import Derived.Shelf.Strconv.Itoa1
import Derived.Lib.ItoaNum
import Derived.Lib.AppendIntMem
import Ieee.Arith
import Derived.Laws.FloatBits
set_option linter.unusedVariables false
namespace Go.Proofs.YtellndmbllmjgaaGreatDoor
open Go.RowKit Go.Shelf Go.Sort Fs

set_option maxRecDepth 100000 in
set_option maxHeartbeats 4000000 in
theorem fmtE2_p1 (base Bf r : Nat) (v : Value) (C : Array Value) (fr : Nat × Nat) (c0 a : Nat) (rest : List Nat) (hr0 : 0 < r) (hr1 : r ≤ 31) (hrl : rest.length = r) (h1 : a < 10) (w : World) (hown' : w.ownsRow base 5 1 v 0 []) (hb : base ≤ w.heap.size) (hB : w.heap[Bf]? = some (Obj.cells C 234 fr)) (hcell : w.cell? ⟨Bf, 0, none⟩ = some (.int .u8 (c0 : Int)))
    (hrest : ∀ (j : Nat) u, (rest.map bv)[j]? = some u → C[1 + j]? = some u) :
    Calls Tryz.prog 215 #[v, .bool false, .slice (some ⟨Bf, 0, none⟩) 32 32, .int .i64 ((a : Int) + 1), .int .i64 ((r : Int) + 1), .int .i64 (r : Int), .int .u8 101, .bool true] w fun e w' => ∃ v', e = .returned v' ∧ w'.ownsRow base 5 1 v' (fmtE c0 rest false a).length ((fmtE c0 rest false a).map bv) ∧ Below base w w' := by
  have hbw : Below base w w := Below.refl _ _
  have hk : Kept5 w w := Kept5.refl _
  have hxe : (a : Int) + 1 - 1 = (a : Int) := by omega
  have i1 : (a : Int) < 10 := by omega
  have td1 : (a : Int).tdiv 10 = ((a / 10 : Nat) : Int) := by rw [Int.tdiv_eq_ediv_of_nonneg (by omega)]; rfl
  have td2 : (a : Int).tdiv 100 = ((a / 100 : Nat) : Int) := by rw [Int.tdiv_eq_ediv_of_nonneg (by omega)]; rfl
  have tm1 : (a : Int).tmod 10 = ((a % 10 : Nat) : Int) := by rw [Int.tmod_eq_emod_of_nonneg (by omega)]; rfl
  have b1 : a / 10 < 100 := by omega
  have b2 : a / 100 < 10 := by omega
  have b3 : a % 10 < 10 := by omega
  have j1 : ((r : Int) + 1 == 0) = false := by rw [beq_eq_false_iff_ne]; omega
  have hne : rest ≠ [] := fun e => by rw [e] at hrl; simp at hrl; omega
  have HE : Hid (rest ≠ []) := hne
  have HB : Hid (w.heap[Bf]? = some (Obj.cells C 234 fr)) := hB
  have HR : Hid (∀ (j : Nat) u, (rest.map bv)[j]? = some u → C[1 + j]? = some u) := hrest
  have HL : Hid (rest.length = r) := hrl
  clear hB hrest hrl hne
  go_enter Tryz.func215, Tryz.ntmps215
  go_wp2_with (first | (at_builtin; refine app1 rfl _ _ rfl base _ _ _ w _ _ hown' rfl rfl (by omega) hb hbw ?_; intro v' w2 hown' hbw hk'; have hk := hk.trans hk'; clear hk') | (at_builtin; refine app2 rfl _ _ rfl base _ _ _ w _ _ _ hown' rfl rfl (by omega) hb hbw ?_; intro v' w2 hown' hbw hk'; have hk := hk.trans hk'; clear hk') | (at_builtin; refine app3 rfl _ _ rfl base _ _ _ w _ _ _ _ hown' rfl rfl (by omega) hb hbw ?_; intro v' w2 hown' hbw hk'; have hk := hk.trans hk'; clear hk') | (at_builtin; refine app_sl rfl _ _ rfl base _ r _ _ (rest.map bv) w _ ⟨Bf, 1, none⟩ 31 hown' rfl rfl (by rw [List.length_map]; exact HL.out) (fun j u hj => by rw [addB, hk.cell HB.out (by decide)]; exact HR.out j u hj) (one_bv rest) (by omega) hb hbw ?_; intro v' w2 hown' hbw hk'; have hk := hk.trans hk'; clear hk'))
  refine wp_loop_once ?_
  go_wp2_with (first | (at_builtin; refine app1 rfl _ _ rfl base _ _ _ w _ _ hown' rfl rfl (by omega) hb hbw ?_; intro v' w2 hown' hbw hk'; have hk := hk.trans hk'; clear hk') | (at_builtin; refine app2 rfl _ _ rfl base _ _ _ w _ _ _ hown' rfl rfl (by omega) hb hbw ?_; intro v' w2 hown' hbw hk'; have hk := hk.trans hk'; clear hk') | (at_builtin; refine app3 rfl _ _ rfl base _ _ _ w _ _ _ _ hown' rfl rfl (by omega) hb hbw ?_; intro v' w2 hown' hbw hk'; have hk := hk.trans hk'; clear hk'))
  go_ret
  refine ⟨_, rfl, own_as hown' ?_, hbw⟩
  unfold fmtE expD
  rw [if_neg HE.out, if_pos h1]
  simp [bv]
  try omega
set_option maxRecDepth 100000 in
set_option maxHeartbeats 4000000 in
theorem fmtE2_p2 (base Bf r : Nat) (v : Value) (C : Array Value) (fr : Nat × Nat) (c0 a : Nat) (rest : List Nat) (hr0 : 0 < r) (hr1 : r ≤ 31) (hrl : rest.length = r) (h1 : ¬ a < 10) (h2 : a < 100) (w : World) (hown' : w.ownsRow base 5 1 v 0 []) (hb : base ≤ w.heap.size) (hB : w.heap[Bf]? = some (Obj.cells C 234 fr)) (hcell : w.cell? ⟨Bf, 0, none⟩ = some (.int .u8 (c0 : Int)))
    (hrest : ∀ (j : Nat) u, (rest.map bv)[j]? = some u → C[1 + j]? = some u) :
    Calls Tryz.prog 215 #[v, .bool false, .slice (some ⟨Bf, 0, none⟩) 32 32, .int .i64 ((a : Int) + 1), .int .i64 ((r : Int) + 1), .int .i64 (r : Int), .int .u8 101, .bool true] w fun e w' => ∃ v', e = .returned v' ∧ w'.ownsRow base 5 1 v' (fmtE c0 rest false a).length ((fmtE c0 rest false a).map bv) ∧ Below base w w' := by
  have hbw : Below base w w := Below.refl _ _
  have hk : Kept5 w w := Kept5.refl _
  have hxe : (a : Int) + 1 - 1 = (a : Int) := by omega
  have i1 : ¬ (a : Int) < 10 := by omega
  have i2 : (a : Int) < 100 := by omega
  have td1 : (a : Int).tdiv 10 = ((a / 10 : Nat) : Int) := by rw [Int.tdiv_eq_ediv_of_nonneg (by omega)]; rfl
  have td2 : (a : Int).tdiv 100 = ((a / 100 : Nat) : Int) := by rw [Int.tdiv_eq_ediv_of_nonneg (by omega)]; rfl
  have tm1 : (a : Int).tmod 10 = ((a % 10 : Nat) : Int) := by rw [Int.tmod_eq_emod_of_nonneg (by omega)]; rfl
  have b1 : a / 10 < 100 := by omega
  have b2 : a / 100 < 10 := by omega
  have b3 : a % 10 < 10 := by omega
  have j1 : ((r : Int) + 1 == 0) = false := by rw [beq_eq_false_iff_ne]; omega
  have hne : rest ≠ [] := fun e => by rw [e] at hrl; simp at hrl; omega
  have HE : Hid (rest ≠ []) := hne
  have HB : Hid (w.heap[Bf]? = some (Obj.cells C 234 fr)) := hB
  have HR : Hid (∀ (j : Nat) u, (rest.map bv)[j]? = some u → C[1 + j]? = some u) := hrest
  have HL : Hid (rest.length = r) := hrl
  clear hB hrest hrl hne
  go_enter Tryz.func215, Tryz.ntmps215
  go_wp2_with (first | (at_builtin; refine app1 rfl _ _ rfl base _ _ _ w _ _ hown' rfl rfl (by omega) hb hbw ?_; intro v' w2 hown' hbw hk'; have hk := hk.trans hk'; clear hk') | (at_builtin; refine app2 rfl _ _ rfl base _ _ _ w _ _ _ hown' rfl rfl (by omega) hb hbw ?_; intro v' w2 hown' hbw hk'; have hk := hk.trans hk'; clear hk') | (at_builtin; refine app3 rfl _ _ rfl base _ _ _ w _ _ _ _ hown' rfl rfl (by omega) hb hbw ?_; intro v' w2 hown' hbw hk'; have hk := hk.trans hk'; clear hk') | (at_builtin; refine app_sl rfl _ _ rfl base _ r _ _ (rest.map bv) w _ ⟨Bf, 1, none⟩ 31 hown' rfl rfl (by rw [List.length_map]; exact HL.out) (fun j u hj => by rw [addB, hk.cell HB.out (by decide)]; exact HR.out j u hj) (one_bv rest) (by omega) hb hbw ?_; intro v' w2 hown' hbw hk'; have hk := hk.trans hk'; clear hk'))
  refine wp_loop_once ?_
  go_wp2_with (first | (at_builtin; refine app1 rfl _ _ rfl base _ _ _ w _ _ hown' rfl rfl (by omega) hb hbw ?_; intro v' w2 hown' hbw hk'; have hk := hk.trans hk'; clear hk') | (at_builtin; refine app2 rfl _ _ rfl base _ _ _ w _ _ _ hown' rfl rfl (by omega) hb hbw ?_; intro v' w2 hown' hbw hk'; have hk := hk.trans hk'; clear hk') | (at_builtin; refine app3 rfl _ _ rfl base _ _ _ w _ _ _ _ hown' rfl rfl (by omega) hb hbw ?_; intro v' w2 hown' hbw hk'; have hk := hk.trans hk'; clear hk'))
  go_ret
  refine ⟨_, rfl, own_as hown' ?_, hbw⟩
  unfold fmtE expD
  rw [if_neg HE.out, if_neg h1, if_pos h2]
  simp [bv]
  try omega
set_option maxRecDepth 100000 in
set_option maxHeartbeats 4000000 in
theorem fmtE2_p3 (base Bf r : Nat) (v : Value) (C : Array Value) (fr : Nat × Nat) (c0 a : Nat) (rest : List Nat) (hr0 : 0 < r) (hr1 : r ≤ 31) (hrl : rest.length = r) (h1 : ¬ a < 10) (h2 : ¬ a < 100) (h3 : a < 1000) (w : World) (hown' : w.ownsRow base 5 1 v 0 []) (hb : base ≤ w.heap.size) (hB : w.heap[Bf]? = some (Obj.cells C 234 fr)) (hcell : w.cell? ⟨Bf, 0, none⟩ = some (.int .u8 (c0 : Int)))
    (hrest : ∀ (j : Nat) u, (rest.map bv)[j]? = some u → C[1 + j]? = some u) :
    Calls Tryz.prog 215 #[v, .bool false, .slice (some ⟨Bf, 0, none⟩) 32 32, .int .i64 ((a : Int) + 1), .int .i64 ((r : Int) + 1), .int .i64 (r : Int), .int .u8 101, .bool true] w fun e w' => ∃ v', e = .returned v' ∧ w'.ownsRow base 5 1 v' (fmtE c0 rest false a).length ((fmtE c0 rest false a).map bv) ∧ Below base w w' := by
  have hbw : Below base w w := Below.refl _ _
  have hk : Kept5 w w := Kept5.refl _
  have hxe : (a : Int) + 1 - 1 = (a : Int) := by omega
  have i1 : ¬ (a : Int) < 10 := by omega
  have i2 : ¬ (a : Int) < 100 := by omega
  have td1 : (a : Int).tdiv 10 = ((a / 10 : Nat) : Int) := by rw [Int.tdiv_eq_ediv_of_nonneg (by omega)]; rfl
  have td2 : (a : Int).tdiv 100 = ((a / 100 : Nat) : Int) := by rw [Int.tdiv_eq_ediv_of_nonneg (by omega)]; rfl
  have tm1 : (a : Int).tmod 10 = ((a % 10 : Nat) : Int) := by rw [Int.tmod_eq_emod_of_nonneg (by omega)]; rfl
  have b1 : a / 10 < 100 := by omega
  have b2 : a / 100 < 10 := by omega
  have b3 : a % 10 < 10 := by omega
  have j1 : ((r : Int) + 1 == 0) = false := by rw [beq_eq_false_iff_ne]; omega
  have hne : rest ≠ [] := fun e => by rw [e] at hrl; simp at hrl; omega
  have HE : Hid (rest ≠ []) := hne
  have HB : Hid (w.heap[Bf]? = some (Obj.cells C 234 fr)) := hB
  have HR : Hid (∀ (j : Nat) u, (rest.map bv)[j]? = some u → C[1 + j]? = some u) := hrest
  have HL : Hid (rest.length = r) := hrl
  clear hB hrest hrl hne
  go_enter Tryz.func215, Tryz.ntmps215
  go_wp2_with (first | (at_builtin; refine app1 rfl _ _ rfl base _ _ _ w _ _ hown' rfl rfl (by omega) hb hbw ?_; intro v' w2 hown' hbw hk'; have hk := hk.trans hk'; clear hk') | (at_builtin; refine app2 rfl _ _ rfl base _ _ _ w _ _ _ hown' rfl rfl (by omega) hb hbw ?_; intro v' w2 hown' hbw hk'; have hk := hk.trans hk'; clear hk') | (at_builtin; refine app3 rfl _ _ rfl base _ _ _ w _ _ _ _ hown' rfl rfl (by omega) hb hbw ?_; intro v' w2 hown' hbw hk'; have hk := hk.trans hk'; clear hk') | (at_builtin; refine app_sl rfl _ _ rfl base _ r _ _ (rest.map bv) w _ ⟨Bf, 1, none⟩ 31 hown' rfl rfl (by rw [List.length_map]; exact HL.out) (fun j u hj => by rw [addB, hk.cell HB.out (by decide)]; exact HR.out j u hj) (one_bv rest) (by omega) hb hbw ?_; intro v' w2 hown' hbw hk'; have hk := hk.trans hk'; clear hk'))
  refine wp_loop_once ?_
  go_wp2_with (first | (at_builtin; refine app1 rfl _ _ rfl base _ _ _ w _ _ hown' rfl rfl (by omega) hb hbw ?_; intro v' w2 hown' hbw hk'; have hk := hk.trans hk'; clear hk') | (at_builtin; refine app2 rfl _ _ rfl base _ _ _ w _ _ _ hown' rfl rfl (by omega) hb hbw ?_; intro v' w2 hown' hbw hk'; have hk := hk.trans hk'; clear hk') | (at_builtin; refine app3 rfl _ _ rfl base _ _ _ w _ _ _ _ hown' rfl rfl (by omega) hb hbw ?_; intro v' w2 hown' hbw hk'; have hk := hk.trans hk'; clear hk'))
  go_ret
  refine ⟨_, rfl, own_as hown' ?_, hbw⟩
  unfold fmtE expD
  rw [if_neg HE.out, if_neg h1, if_neg h2]
  simp [bv]
  try omega
set_option maxRecDepth 100000 in
set_option maxHeartbeats 4000000 in
theorem fmtE2_n1 (base Bf r : Nat) (v : Value) (C : Array Value) (fr : Nat × Nat) (c0 a : Nat) (rest : List Nat) (hr0 : 0 < r) (hr1 : r ≤ 31) (hrl : rest.length = r) (h0 : 0 < a) (h1 : a < 10) (w : World) (hown' : w.ownsRow base 5 1 v 0 []) (hb : base ≤ w.heap.size) (hB : w.heap[Bf]? = some (Obj.cells C 234 fr)) (hcell : w.cell? ⟨Bf, 0, none⟩ = some (.int .u8 (c0 : Int)))
    (hrest : ∀ (j : Nat) u, (rest.map bv)[j]? = some u → C[1 + j]? = some u) :
    Calls Tryz.prog 215 #[v, .bool false, .slice (some ⟨Bf, 0, none⟩) 32 32, .int .i64 (-(a : Int) + 1), .int .i64 ((r : Int) + 1), .int .i64 (r : Int), .int .u8 101, .bool true] w fun e w' => ∃ v', e = .returned v' ∧ w'.ownsRow base 5 1 v' (fmtE c0 rest true a).length ((fmtE c0 rest true a).map bv) ∧ Below base w w' := by
  have hbw : Below base w w := Below.refl _ _
  have hk : Kept5 w w := Kept5.refl _
  have hxe : -(a : Int) + 1 - 1 = -(a : Int) := by omega
  have hnn : - -(a : Int) = (a : Int) := by omega
  have hng : -(a : Int) < 0 := by omega
  have i1 : (a : Int) < 10 := by omega
  have td1 : (a : Int).tdiv 10 = ((a / 10 : Nat) : Int) := by rw [Int.tdiv_eq_ediv_of_nonneg (by omega)]; rfl
  have td2 : (a : Int).tdiv 100 = ((a / 100 : Nat) : Int) := by rw [Int.tdiv_eq_ediv_of_nonneg (by omega)]; rfl
  have tm1 : (a : Int).tmod 10 = ((a % 10 : Nat) : Int) := by rw [Int.tmod_eq_emod_of_nonneg (by omega)]; rfl
  have b1 : a / 10 < 100 := by omega
  have b2 : a / 100 < 10 := by omega
  have b3 : a % 10 < 10 := by omega
  have j1 : ((r : Int) + 1 == 0) = false := by rw [beq_eq_false_iff_ne]; omega
  have hne : rest ≠ [] := fun e => by rw [e] at hrl; simp at hrl; omega
  have HE : Hid (rest ≠ []) := hne
  have HB : Hid (w.heap[Bf]? = some (Obj.cells C 234 fr)) := hB
  have HR : Hid (∀ (j : Nat) u, (rest.map bv)[j]? = some u → C[1 + j]? = some u) := hrest
  have HL : Hid (rest.length = r) := hrl
  clear hB hrest hrl hne
  go_enter Tryz.func215, Tryz.ntmps215
  go_wp2_with (first | (at_builtin; refine app1 rfl _ _ rfl base _ _ _ w _ _ hown' rfl rfl (by omega) hb hbw ?_; intro v' w2 hown' hbw hk'; have hk := hk.trans hk'; clear hk') | (at_builtin; refine app2 rfl _ _ rfl base _ _ _ w _ _ _ hown' rfl rfl (by omega) hb hbw ?_; intro v' w2 hown' hbw hk'; have hk := hk.trans hk'; clear hk') | (at_builtin; refine app3 rfl _ _ rfl base _ _ _ w _ _ _ _ hown' rfl rfl (by omega) hb hbw ?_; intro v' w2 hown' hbw hk'; have hk := hk.trans hk'; clear hk') | (at_builtin; refine app_sl rfl _ _ rfl base _ r _ _ (rest.map bv) w _ ⟨Bf, 1, none⟩ 31 hown' rfl rfl (by rw [List.length_map]; exact HL.out) (fun j u hj => by rw [addB, hk.cell HB.out (by decide)]; exact HR.out j u hj) (one_bv rest) (by omega) hb hbw ?_; intro v' w2 hown' hbw hk'; have hk := hk.trans hk'; clear hk'))
  refine wp_loop_once ?_
  go_wp2_with (first | (at_builtin; refine app1 rfl _ _ rfl base _ _ _ w _ _ hown' rfl rfl (by omega) hb hbw ?_; intro v' w2 hown' hbw hk'; have hk := hk.trans hk'; clear hk') | (at_builtin; refine app2 rfl _ _ rfl base _ _ _ w _ _ _ hown' rfl rfl (by omega) hb hbw ?_; intro v' w2 hown' hbw hk'; have hk := hk.trans hk'; clear hk') | (at_builtin; refine app3 rfl _ _ rfl base _ _ _ w _ _ _ _ hown' rfl rfl (by omega) hb hbw ?_; intro v' w2 hown' hbw hk'; have hk := hk.trans hk'; clear hk'))
  go_ret
  refine ⟨_, rfl, own_as hown' ?_, hbw⟩
  unfold fmtE expD
  rw [if_neg HE.out, if_pos h1]
  simp [bv]
  try omega
set_option maxRecDepth 100000 in
set_option maxHeartbeats 4000000 in
theorem fmtE2_n2 (base Bf r : Nat) (v : Value) (C : Array Value) (fr : Nat × Nat) (c0 a : Nat) (rest : List Nat) (hr0 : 0 < r) (hr1 : r ≤ 31) (hrl : rest.length = r) (h0 : 0 < a) (h1 : ¬ a < 10) (h2 : a < 100) (w : World) (hown' : w.ownsRow base 5 1 v 0 []) (hb : base ≤ w.heap.size) (hB : w.heap[Bf]? = some (Obj.cells C 234 fr)) (hcell : w.cell? ⟨Bf, 0, none⟩ = some (.int .u8 (c0 : Int)))
    (hrest : ∀ (j : Nat) u, (rest.map bv)[j]? = some u → C[1 + j]? = some u) :
    Calls Tryz.prog 215 #[v, .bool false, .slice (some ⟨Bf, 0, none⟩) 32 32, .int .i64 (-(a : Int) + 1), .int .i64 ((r : Int) + 1), .int .i64 (r : Int), .int .u8 101, .bool true] w fun e w' => ∃ v', e = .returned v' ∧ w'.ownsRow base 5 1 v' (fmtE c0 rest true a).length ((fmtE c0 rest true a).map bv) ∧ Below base w w' := by
  have hbw : Below base w w := Below.refl _ _
  have hk : Kept5 w w := Kept5.refl _
  have hxe : -(a : Int) + 1 - 1 = -(a : Int) := by omega
  have hnn : - -(a : Int) = (a : Int) := by omega
  have hng : -(a : Int) < 0 := by omega
  have i1 : ¬ (a : Int) < 10 := by omega
  have i2 : (a : Int) < 100 := by omega
  have td1 : (a : Int).tdiv 10 = ((a / 10 : Nat) : Int) := by rw [Int.tdiv_eq_ediv_of_nonneg (by omega)]; rfl
  have td2 : (a : Int).tdiv 100 = ((a / 100 : Nat) : Int) := by rw [Int.tdiv_eq_ediv_of_nonneg (by omega)]; rfl
  have tm1 : (a : Int).tmod 10 = ((a % 10 : Nat) : Int) := by rw [Int.tmod_eq_emod_of_nonneg (by omega)]; rfl
  have b1 : a / 10 < 100 := by omega
  have b2 : a / 100 < 10 := by omega
  have b3 : a % 10 < 10 := by omega
  have j1 : ((r : Int) + 1 == 0) = false := by rw [beq_eq_false_iff_ne]; omega
  have hne : rest ≠ [] := fun e => by rw [e] at hrl; simp at hrl; omega
  have HE : Hid (rest ≠ []) := hne
  have HB : Hid (w.heap[Bf]? = some (Obj.cells C 234 fr)) := hB
  have HR : Hid (∀ (j : Nat) u, (rest.map bv)[j]? = some u → C[1 + j]? = some u) := hrest
  have HL : Hid (rest.length = r) := hrl
  clear hB hrest hrl hne
  go_enter Tryz.func215, Tryz.ntmps215
  go_wp2_with (first | (at_builtin; refine app1 rfl _ _ rfl base _ _ _ w _ _ hown' rfl rfl (by omega) hb hbw ?_; intro v' w2 hown' hbw hk'; have hk := hk.trans hk'; clear hk') | (at_builtin; refine app2 rfl _ _ rfl base _ _ _ w _ _ _ hown' rfl rfl (by omega) hb hbw ?_; intro v' w2 hown' hbw hk'; have hk := hk.trans hk'; clear hk') | (at_builtin; refine app3 rfl _ _ rfl base _ _ _ w _ _ _ _ hown' rfl rfl (by omega) hb hbw ?_; intro v' w2 hown' hbw hk'; have hk := hk.trans hk'; clear hk') | (at_builtin; refine app_sl rfl _ _ rfl base _ r _ _ (rest.map bv) w _ ⟨Bf, 1, none⟩ 31 hown' rfl rfl (by rw [List.length_map]; exact HL.out) (fun j u hj => by rw [addB, hk.cell HB.out (by decide)]; exact HR.out j u hj) (one_bv rest) (by omega) hb hbw ?_; intro v' w2 hown' hbw hk'; have hk := hk.trans hk'; clear hk'))
  refine wp_loop_once ?_
  go_wp2_with (first | (at_builtin; refine app1 rfl _ _ rfl base _ _ _ w _ _ hown' rfl rfl (by omega) hb hbw ?_; intro v' w2 hown' hbw hk'; have hk := hk.trans hk'; clear hk') | (at_builtin; refine app2 rfl _ _ rfl base _ _ _ w _ _ _ hown' rfl rfl (by omega) hb hbw ?_; intro v' w2 hown' hbw hk'; have hk := hk.trans hk'; clear hk') | (at_builtin; refine app3 rfl _ _ rfl base _ _ _ w _ _ _ _ hown' rfl rfl (by omega) hb hbw ?_; intro v' w2 hown' hbw hk'; have hk := hk.trans hk'; clear hk'))
  go_ret
  refine ⟨_, rfl, own_as hown' ?_, hbw⟩
  unfold fmtE expD
  rw [if_neg HE.out, if_neg h1, if_pos h2]
  simp [bv]
  try omega
set_option maxRecDepth 100000 in
set_option maxHeartbeats 4000000 in
theorem fmtE2_n3 (base Bf r : Nat) (v : Value) (C : Array Value) (fr : Nat × Nat) (c0 a : Nat) (rest : List Nat) (hr0 : 0 < r) (hr1 : r ≤ 31) (hrl : rest.length = r) (h0 : 0 < a) (h1 : ¬ a < 10) (h2 : ¬ a < 100) (h3 : a < 1000) (w : World) (hown' : w.ownsRow base 5 1 v 0 []) (hb : base ≤ w.heap.size) (hB : w.heap[Bf]? = some (Obj.cells C 234 fr)) (hcell : w.cell? ⟨Bf, 0, none⟩ = some (.int .u8 (c0 : Int)))
    (hrest : ∀ (j : Nat) u, (rest.map bv)[j]? = some u → C[1 + j]? = some u) :
    Calls Tryz.prog 215 #[v, .bool false, .slice (some ⟨Bf, 0, none⟩) 32 32, .int .i64 (-(a : Int) + 1), .int .i64 ((r : Int) + 1), .int .i64 (r : Int), .int .u8 101, .bool true] w fun e w' => ∃ v', e = .returned v' ∧ w'.ownsRow base 5 1 v' (fmtE c0 rest true a).length ((fmtE c0 rest true a).map bv) ∧ Below base w w' := by
  have hbw : Below base w w := Below.refl _ _
  have hk : Kept5 w w := Kept5.refl _
  have hxe : -(a : Int) + 1 - 1 = -(a : Int) := by omega
  have hnn : - -(a : Int) = (a : Int) := by omega
  have hng : -(a : Int) < 0 := by omega
  have i1 : ¬ (a : Int) < 10 := by omega
  have i2 : ¬ (a : Int) < 100 := by omega
  have td1 : (a : Int).tdiv 10 = ((a / 10 : Nat) : Int) := by rw [Int.tdiv_eq_ediv_of_nonneg (by omega)]; rfl
  have td2 : (a : Int).tdiv 100 = ((a / 100 : Nat) : Int) := by rw [Int.tdiv_eq_ediv_of_nonneg (by omega)]; rfl
  have tm1 : (a : Int).tmod 10 = ((a % 10 : Nat) : Int) := by rw [Int.tmod_eq_emod_of_nonneg (by omega)]; rfl
  have b1 : a / 10 < 100 := by omega
  have b2 : a / 100 < 10 := by omega
  have b3 : a % 10 < 10 := by omega
  have j1 : ((r : Int) + 1 == 0) = false := by rw [beq_eq_false_iff_ne]; omega
  have hne : rest ≠ [] := fun e => by rw [e] at hrl; simp at hrl; omega
  have HE : Hid (rest ≠ []) := hne
  have HB : Hid (w.heap[Bf]? = some (Obj.cells C 234 fr)) := hB
  have HR : Hid (∀ (j : Nat) u, (rest.map bv)[j]? = some u → C[1 + j]? = some u) := hrest
  have HL : Hid (rest.length = r) := hrl
  clear hB hrest hrl hne
  go_enter Tryz.func215, Tryz.ntmps215
  go_wp2_with (first | (at_builtin; refine app1 rfl _ _ rfl base _ _ _ w _ _ hown' rfl rfl (by omega) hb hbw ?_; intro v' w2 hown' hbw hk'; have hk := hk.trans hk'; clear hk') | (at_builtin; refine app2 rfl _ _ rfl base _ _ _ w _ _ _ hown' rfl rfl (by omega) hb hbw ?_; intro v' w2 hown' hbw hk'; have hk := hk.trans hk'; clear hk') | (at_builtin; refine app3 rfl _ _ rfl base _ _ _ w _ _ _ _ hown' rfl rfl (by omega) hb hbw ?_; intro v' w2 hown' hbw hk'; have hk := hk.trans hk'; clear hk') | (at_builtin; refine app_sl rfl _ _ rfl base _ r _ _ (rest.map bv) w _ ⟨Bf, 1, none⟩ 31 hown' rfl rfl (by rw [List.length_map]; exact HL.out) (fun j u hj => by rw [addB, hk.cell HB.out (by decide)]; exact HR.out j u hj) (one_bv rest) (by omega) hb hbw ?_; intro v' w2 hown' hbw hk'; have hk := hk.trans hk'; clear hk'))
  refine wp_loop_once ?_
  go_wp2_with (first | (at_builtin; refine app1 rfl _ _ rfl base _ _ _ w _ _ hown' rfl rfl (by omega) hb hbw ?_; intro v' w2 hown' hbw hk'; have hk := hk.trans hk'; clear hk') | (at_builtin; refine app2 rfl _ _ rfl base _ _ _ w _ _ _ hown' rfl rfl (by omega) hb hbw ?_; intro v' w2 hown' hbw hk'; have hk := hk.trans hk'; clear hk') | (at_builtin; refine app3 rfl _ _ rfl base _ _ _ w _ _ _ _ hown' rfl rfl (by omega) hb hbw ?_; intro v' w2 hown' hbw hk'; have hk := hk.trans hk'; clear hk'))
  go_ret
  refine ⟨_, rfl, own_as hown' ?_, hbw⟩
  unfold fmtE expD
  rw [if_neg HE.out, if_neg h1, if_neg h2]
  simp [bv]
  try omega
end Go.Proofs.YtellndmbllmjgaaGreatDoor
/- The fewest digits, without the noughts behind; their bytes. -/
set_option linter.unusedVariables false
namespace Go.Proofs.YtellndmbllmjgaaGreatDoor
namespace Fs

/-- d times 10 to the j (less 400): the fewest digits that tell the float, of those the nearest; the last is not 0. -/
structure Told (M e d j : Nat) : Prop where
  last : d % 10 ≠ 0
  isin : Inn (LL M e) (UU M e) (M % 2) (d * (10 ^ j * Z76))
  pick : Pick (XX M e) (LL M e) (UU M e) (M % 2) (10 ^ j * Z76) d
  none : ∀ D k, j < k → ¬ Inn (LL M e) (UU M e) (M % 2) (D * (10 ^ k * Z76))
theorem strip : ∀ (f d : Nat), d ≤ f → 0 < d → ∃ d0 t, d = d0 * 10 ^ t ∧ d0 % 10 ≠ 0
  | 0, d, h, h0 => by omega
  | f + 1, d, h, h0 => by
    by_cases hm : d % 10 = 0
    · obtain ⟨d0, t, h1, h2⟩ := strip f (d / 10) (by omega) (by omega)
      refine ⟨d0, t + 1, ?_, h2⟩
      rw [Nat.pow_succ, ← Nat.mul_assoc, ← h1]
      omega
    · exact ⟨d, 0, by rw [Nat.pow_zero, Nat.mul_one], hm⟩
theorem told_of_short {M e d i d0 t : Nat} (hM : 0 < M) (h : Short M e d i) (hd : d = d0 * 10 ^ t) (h0 : d0 % 10 ≠ 0) : Told M e d0 (i + t) := by
  have he : d0 * (10 ^ (i + t) * Z76) = d * (10 ^ i * Z76) := by rw [hd, Nat.pow_add]; grind
  have hin : Inn (LL M e) (UU M e) (M % 2) (d0 * (10 ^ (i + t) * Z76)) := by rw [he]; exact h.isin
  have hB : 0 < 10 ^ (i + t) * Z76 := Nat.mul_pos (Nat.pow_pos (by omega)) Z76_pos
  refine ⟨h0, hin, ?_, ?_⟩
  · by_cases ht : t = 0
    · subst ht
      rw [Nat.pow_zero, Nat.mul_one] at hd
      subst hd
      exact h.pick
    · obtain ⟨_, g2, _, _, g5, _⟩ := XL (e := e) hM
      refine pick_of_one hB g2 g5 hin ?_
      intro D hD
      have := h.one D (i + t) (by omega) hD
      rw [hd, Nat.mul_assoc, ← Nat.pow_add, Nat.add_comm t i] at this
      exact Nat.eq_of_mul_eq_mul_right (Nat.pow_pos (by omega)) this
  · intro D k hk hD
    have := h.one D k (by omega) hD
    rw [hd, Nat.mul_assoc, ← Nat.pow_add, Nat.add_comm t i] at this
    obtain ⟨c, rfl⟩ : ∃ c, k = c + 1 + (i + t) := ⟨k - 1 - (i + t), by omega⟩
    rw [Nat.pow_add, ← Nat.mul_assoc] at this
    have e2 := Nat.eq_of_mul_eq_mul_right (Nat.pow_pos (by omega)) this
    rw [Nat.pow_succ, ← Nat.mul_assoc] at e2
    apply h0
    rw [← e2]
    exact Nat.mul_mod_left ..
/-- How many digits a number with noughts behind has. -/
theorem nDigits_shift (d0 : Nat) (h : 0 < d0) : ∀ t, Lib.nDigits (d0 * 10 ^ t) = Lib.nDigits d0 + t
  | 0 => by rw [Nat.pow_zero, Nat.mul_one]; rfl
  | t + 1 => by
    have hp : 0 < d0 * 10 ^ t := Nat.mul_pos h (Nat.pow_pos (by omega))
    rw [Nat.pow_succ, ← Nat.mul_assoc, Lib.nDigits_big (by omega), Nat.mul_div_cancel _ (by omega), nDigits_shift d0 h t]
    omega
/-- A number's digits as bytes. -/
def decN (d : Nat) : List Nat := (Lib.decDigits d).map UInt8.toNat
theorem decN_length (d : Nat) : (decN d).length = Lib.nDigits d := by
  unfold decN
  rw [List.length_map, Lib.decDigits_length]
theorem decN_at (d j : Nat) (h : j < Lib.nDigits d) : (decN d)[j]? = some (48 + d / 10 ^ (Lib.nDigits d - 1 - j) % 10) := by
  unfold decN
  rw [Lib.decDigits_eq, List.getElem?_map, List.getElem?_map, List.getElem?_range h]
  simp only [Option.map_some, Lib.dg, UInt8.toNat_ofNat']
  have : d / 10 ^ (Lib.nDigits d - 1 - j) % 10 < 10 := Nat.mod_lt _ (by omega)
  congr 1
  omega
theorem digit_shift (d0 t n j : Nat) (hj : j < n) : d0 * 10 ^ t / 10 ^ (n + t - 1 - j) % 10 = d0 / 10 ^ (n - 1 - j) % 10 := by
  rw [show n + t - 1 - j = t + (n - 1 - j) by omega, Nat.pow_add, Nat.mul_comm d0, Nat.mul_div_mul_left _ _ (Nat.pow_pos (by omega))]
theorem nDigits_lb : ∀ (d : Nat), 0 < d → 10 ^ (Lib.nDigits d - 1) ≤ d := fun d => by
    induction d using Nat.strongRecOn with
    | ind d ih =>
      intro h
      by_cases h0 : d < 10
      · rw [Lib.nDigits_small h0]
        simp
        omega
      · rw [Lib.nDigits_big h0]
        have := ih (d / 10) (by omega) (by omega)
        have hp := Lib.nDigits_pos (d / 10)
        obtain ⟨q, hq⟩ : ∃ q, Lib.nDigits (d / 10) = q + 1 := ⟨Lib.nDigits (d / 10) - 1, by omega⟩
        rw [hq] at this ⊢
        simp only [Nat.add_sub_cancel] at this ⊢
        rw [Nat.pow_succ]
        omega
theorem nDigits_le (d k : Nat) (h : d < 10 ^ k) (hk : 0 < k) : Lib.nDigits d ≤ k := by
  rcases Nat.lt_or_ge k (Lib.nDigits d) with hlt | hge
  · exfalso
    by_cases h0 : d < 10
    · rw [Lib.nDigits_small h0] at hlt
      omega
    · obtain ⟨m, hm⟩ : ∃ m, Lib.nDigits d = m + 1 := ⟨Lib.nDigits d - 1, by have := Lib.nDigits_pos d; omega⟩
      have : 10 ^ m ≤ d := by
        rcases Nat.lt_or_ge d (10 ^ m) with h1 | h1
        · exfalso
          have h2 := Lib.nDigits_big h0
          rw [hm] at h2
          have h3 : Lib.nDigits (d / 10) = m := by omega
          have h4 := nDigits_lb (d / 10) (by omega)
          rw [h3] at h4
          obtain ⟨q, rfl⟩ : ∃ q, m = q + 1 := ⟨m - 1, by have := Lib.nDigits_pos (d / 10); omega⟩
          rw [Nat.pow_succ] at h1
          simp at h4
          omega
        · exact h1
      have h5 : 10 ^ k ≤ 10 ^ m := Nat.pow_le_pow_right (by omega) (by omega)
      omega
  · exact hge
end Fs
end Go.Proofs.YtellndmbllmjgaaGreatDoor
/- fmtEFG at the shortest digits and 'e', all in one; what a world holds. -/
set_option linter.unusedVariables false
namespace Go.Proofs.YtellndmbllmjgaaGreatDoor
open Go.RowKit Go.Shelf Go.Sort Fs

/-- What is written of digits and an exponent. -/
def fmtS (D : List Nat) (x : Int) : List Nat := fmtE (D.headD 0) D.tail (decide (x < 0)) x.natAbs
theorem fmtE_any (base Bf K : Nat) (v : Value) (C : Array Value) (fr : Nat × Nat) (D : List Nat) (hD : D.length = K + 1) (hK : K ≤ 31) (x : Int) (hx : -1000 < x) (hx2 : x < 1000) (w : World) (hown : w.ownsRow base 5 1 v 0 []) (hb : base ≤ w.heap.size) (hB : w.heap[Bf]? = some (Obj.cells C 234 fr))
    (hc : ∀ (j : Nat) c, D[j]? = some c → C[j]? = some (bv c)) :
    Calls Tryz.prog 215 #[v, .bool false, .slice (some ⟨Bf, 0, none⟩) 32 32, .int .i64 (x + 1), .int .i64 ((K : Int) + 1), .int .i64 (K : Int), .int .u8 101, .bool true] w fun e w' => ∃ v', e = .returned v' ∧ w'.ownsRow base 5 1 v' (fmtS D x).length ((fmtS D x).map bv) ∧ Below base w w' := by
  obtain ⟨c0, rest, rfl⟩ : ∃ c0 rest, D = c0 :: rest := by
    cases D with
    | nil => simp at hD
    | cons a l => exact ⟨a, l, rfl⟩
  have hr : rest.length = K := by simpa using hD
  have hcell : w.cell? ⟨Bf, 0, none⟩ = some (.int .u8 (c0 : Int)) := by
    simp only [World.cell?, hB]
    exact hc 0 c0 rfl
  have hrest : ∀ (j : Nat) u, (rest.map bv)[j]? = some u → C[1 + j]? = some u := by
    intro j u hj
    rw [List.getElem?_map] at hj
    cases hq : rest[j]? with
    | none => rw [hq] at hj; cases hj
    | some c =>
      rw [hq] at hj
      have := hc (j + 1) c (by simpa using hq)
      rw [Nat.add_comm 1 j, this]
      simpa using hj
  have e1 : fmtS (c0 :: rest) x = fmtE c0 rest (decide (x < 0)) x.natAbs := rfl
  rw [e1]
  rcases Int.lt_or_le x 0 with hn | hn
  · rw [decide_eq_true hn]
    obtain ⟨a, rfl⟩ : ∃ a : Nat, x = -(a : Int) := ⟨x.natAbs, by omega⟩
    have e2 : (-(a : Int)).natAbs = a := by omega
    rw [e2]
    rcases Nat.eq_zero_or_pos K with hk0 | hk0
    · have hre : rest = [] := List.eq_nil_of_length_eq_zero (by omega)
      subst hk0
      subst hre
      by_cases h1 : a < 10
      · exact fmtE1_n1 base Bf v c0 a (by omega) h1 w hown hb hcell
      · by_cases h2 : a < 100
        · exact fmtE1_n2 base Bf v c0 a (by omega) h1 h2 w hown hb hcell
        · exact fmtE1_n3 base Bf v c0 a (by omega) h1 h2 (by omega) w hown hb hcell
    · by_cases h1 : a < 10
      · exact fmtE2_n1 base Bf K v C fr c0 a rest hk0 hK hr (by omega) h1 w hown hb hB hcell hrest
      · by_cases h2 : a < 100
        · exact fmtE2_n2 base Bf K v C fr c0 a rest hk0 hK hr (by omega) h1 h2 w hown hb hB hcell hrest
        · exact fmtE2_n3 base Bf K v C fr c0 a rest hk0 hK hr (by omega) h1 h2 (by omega) w hown hb hB hcell hrest
  · rw [decide_eq_false (by omega)]
    obtain ⟨a, rfl⟩ : ∃ a : Nat, x = (a : Int) := ⟨x.toNat, by omega⟩
    have e2 : (a : Int).natAbs = a := by omega
    rw [e2]
    rcases Nat.eq_zero_or_pos K with hk0 | hk0
    · have hre : rest = [] := List.eq_nil_of_length_eq_zero (by omega)
      subst hk0
      subst hre
      by_cases h1 : a < 10
      · exact fmtE1_p1 base Bf v c0 a h1 w hown hb hcell
      · by_cases h2 : a < 100
        · exact fmtE1_p2 base Bf v c0 a h1 h2 w hown hb hcell
        · exact fmtE1_p3 base Bf v c0 a h1 h2 (by omega) w hown hb hcell
    · by_cases h1 : a < 10
      · exact fmtE2_p1 base Bf K v C fr c0 a rest hk0 hK hr h1 w hown hb hB hcell hrest
      · by_cases h2 : a < 100
        · exact fmtE2_p2 base Bf K v C fr c0 a rest hk0 hK hr h1 h2 w hown hb hB hcell hrest
        · exact fmtE2_p3 base Bf K v C fr c0 a rest hk0 hK hr h1 h2 (by omega) w hown hb hB hcell hrest

/-- What a world holds of the library's variables. -/
structure Laid (w : World) : Prop where
  pow : PowTab w
  p10 : Lib.TabIs Tryz.prog w "internal/strconv.uint64pow10" .u64 Lib.pow10Tab
  most : ∃ m, w.cell? ⟨6, 0, none⟩ = some (.int .i64 m)
theorem cell_block {w : World} {b j : Nat} {u : Value} (h : w.cell? ⟨b, j, none⟩ = some u) : b < w.heap.size := by
  rcases Nat.lt_or_ge b w.heap.size with h1 | h1
  · exact h1
  · simp [World.cell?, Array.getElem?_eq_none h1] at h
theorem Laid.size {w : World} (h : Laid w) : 11 < w.heap.size := by
  obtain ⟨hi, lo, hr, _⟩ := h.pow 0 (by omega)
  exact cell_block hr.1
theorem Laid.below {w w' : World} (h : Laid w) (hb : Below w.heap.size w w') : Laid w' := by
  have hs := h.size
  refine ⟨?_, ?_, ?_⟩
  · intro i hi
    obtain ⟨a, b, hr, h1⟩ := h.pow i hi
    refine ⟨a, b, ⟨?_, ?_⟩, h1⟩
    · exact (hb.cell (p := ⟨11, i * 2, none⟩) hs).trans hr.1
    · exact (hb.cell (p := ⟨11, i * 2 + 1, none⟩) hs).trans hr.2
  · exact Lib.tabBelow_of_tabIs h.p10 w' hb
  · obtain ⟨m, hm⟩ := h.most
    exact ⟨m, (hb.cell (p := ⟨6, 0, none⟩) (show 6 < w.heap.size by omega)).trans hm⟩
theorem below_putRow {n B : Nat} {w w1 : World} (dk : Array UInt8) (h : Below n w w1) (hB : n ≤ B) : Below n w (putRow encB w1 B 0 dk) := by
  refine ⟨h.os, h.tape, h.output, ?_, ?_⟩
  · have : (putRow encB w1 B 0 dk).heap.size = w1.heap.size := by simp [putRow, mapBlock]
    rw [this]
    exact h.size
  · intro k hk
    have : (putRow encB w1 B 0 dk).heap[k]? = w1.heap[k]? := by
      simp only [putRow, mapBlock, Array.getElem?_modify]
      rw [if_neg (by omega)]
    rw [this]
    exact h.block k hk
theorem heap_putRow {B : Nat} {w : World} {C : Array Value} {t : TypeId} {fr : Nat × Nat} (dk : Array UInt8) (h : w.heap[B]? = some (Obj.cells C t fr)) : ∃ C', (putRow encB w B 0 dk).heap[B]? = some (Obj.cells C' t fr) := by
  refine ⟨putCells encB 0 dk C, ?_⟩
  simp only [putRow, mapBlock, Array.getElem?_modify, if_true]
  rw [h]
  rfl
theorem below_drewN {n m : Nat} {w w1 : World} (h : Below n w w1) : Below n w (w1.drewN m) := ⟨h.os, h.tape, h.output, h.size, h.block⟩
theorem ownsRow_later {w w' : World} {base : Nat} {e : TypeId} {size : Nat} {v : Value} {n : Nat} {xs : List Value} (h : w.ownsRow base e size v n xs) (hb : Below w.heap.size w w') : w'.ownsRow base e size v n xs := by
  refine ⟨h.1, ?_⟩
  rcases h.2 with hn | ⟨g, cap, cur, hv, hbg, hg, rest⟩
  · exact .inl hn
  · refine .inr ⟨g, cap, cur, hv, hbg, ?_, rest⟩
    rw [hb.block g (lt_of_get hg)]
    exact hg
end Go.Proofs.YtellndmbllmjgaaGreatDoor
/- Plain mathematics: whole numbers as float64 words. -/
set_option linter.unusedVariables false
namespace Go.Proofs.YtellndmbllmjgaaGreatDoor
namespace Fl
open Ieee

theorem binade_eq : double.binade = 4503599627370496 := by decide
theorem sign_eq : double.signWeight = 9223372036854775808 := by decide
theorem inf_eq : double.infRung = 9218868437227405312 := by decide
theorem least_eq : double.leastPlace = -1074 := by decide

/-- n > 0 with L its highest bit's place, M its digits brought to 53. -/
def Norm (n M L : Nat) : Prop := M * 2 ^ L = n * 2 ^ 52 ∧ 2 ^ L ≤ n ∧ n < 2 ^ (L + 1)

theorem log2_of {n k : Nat} (h1 : 2 ^ k ≤ n) (h2 : n < 2 ^ (k + 1)) : n.log2 = k := by
  have h0 : n ≠ 0 := by
    intro e
    rw [e] at h1
    have := Nat.two_pow_pos k
    omega
  have a1 := Nat.log2_self_le h0
  have a2 := Nat.lt_log2_self (n := n)
  have b1 : k < n.log2 + 1 := (Nat.pow_lt_pow_iff_right (by omega : 1 < 2)).1 (Nat.lt_of_le_of_lt h1 a2)
  have b2 : n.log2 < k + 1 := (Nat.pow_lt_pow_iff_right (by omega : 1 < 2)).1 (Nat.lt_of_le_of_lt a1 h2)
  omega

theorem Norm.M_le {n M L : Nat} (h : Norm n M L) : 4503599627370496 ≤ M := by
  obtain ⟨h1, h2, _⟩ := h
  have hp := Nat.two_pow_pos L
  rcases Nat.lt_or_ge M 4503599627370496 with hlt | hge
  · have a : M * 2 ^ L < 4503599627370496 * 2 ^ L := (Nat.mul_lt_mul_right hp).2 hlt
    have b : 2 ^ L * 2 ^ 52 ≤ n * 2 ^ 52 := Nat.mul_le_mul_right _ h2
    rw [Nat.mul_comm (2 ^ L)] at b
    omega
  · exact hge
theorem Norm.M_lt {n M L : Nat} (h : Norm n M L) : M < 9007199254740992 := by
  obtain ⟨h1, _, h3⟩ := h
  have hp := Nat.two_pow_pos L
  rcases Nat.lt_or_ge M 9007199254740992 with hlt | hge
  · exact hlt
  · have a : 9007199254740992 * 2 ^ L ≤ M * 2 ^ L := Nat.mul_le_mul_right _ hge
    have b : n * 2 ^ 52 < 2 ^ (L + 1) * 2 ^ 52 := (Nat.mul_lt_mul_right (by decide)).2 h3
    have e : 2 ^ (L + 1) = 2 * 2 ^ L := by rw [Nat.pow_add, Nat.pow_one, Nat.mul_comm]
    rw [e] at b
    have e2 : 2 * 2 ^ L * 2 ^ 52 = 9007199254740992 * 2 ^ L := by
      rw [Nat.mul_right_comm]
    omega

theorem cut_zero_drop (neg : Bool) (m : Nat) : Toward.even.cut neg m 0 = m := by
  unfold Toward.cut
  simp [Nat.mod_one]
theorem cut_exact (neg : Bool) (M e : Nat) (hM : 0 < M) : Toward.even.cut neg (M * 2 ^ e) e = M := by
  have hp := Nat.two_pow_pos e
  have hle : e ≤ (M * 2 ^ e).log2 := by
    have h0 : M * 2 ^ e ≠ 0 := by
      have := Nat.mul_pos hM hp
      omega
    refine (Nat.le_log2 h0).2 ?_
    exact Nat.le_mul_of_pos_left _ hM
  unfold Toward.cut
  have hm : min e ((M * 2 ^ e).log2 + 2) = e := by omega
  rw [hm]
  simp only [Nat.shiftLeft_eq, Nat.one_mul, Nat.mul_div_cancel _ hp, Nat.mul_mod_left]
  have h1 : ¬ (2 ^ e < 2 * 0) := by omega
  have h2 : (2 ^ e == 2 * 0) = false := by simp
  simp [h2]
/-- The digits cut off towards zero. -/
theorem cut_toward_zero (neg : Bool) (n d : Nat) : Toward.zero.cut neg n d = n / 2 ^ d := by
  unfold Toward.cut
  simp only [Nat.shiftLeft_eq, Nat.one_mul, Bool.toNat_false, Nat.add_zero]
  rcases Nat.le_total d (n.log2 + 2) with h | h
  · rw [Nat.min_eq_left h]
  · rw [Nat.min_eq_right h]
    have a := Nat.lt_log2_self (n := n)
    have h1 : n < 2 ^ (n.log2 + 2) := Nat.lt_of_lt_of_le a (Nat.pow_le_pow_right (by omega) (by omega))
    have h2 : n < 2 ^ d := Nat.lt_of_lt_of_le h1 (Nat.pow_le_pow_right (by omega) h)
    rw [Nat.div_eq_of_lt h1, Nat.div_eq_of_lt h2]

theorem pow_cancel {a b k : Nat} (h : a * 2 ^ k = b * 2 ^ k) : a = b := Nat.eq_of_mul_eq_mul_right (Nat.two_pow_pos k) h

end Fl
end Go.Proofs.YtellndmbllmjgaaGreatDoor
