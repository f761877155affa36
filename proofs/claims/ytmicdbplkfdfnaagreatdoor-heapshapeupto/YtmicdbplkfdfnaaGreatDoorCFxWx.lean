/- A world that holds the row's tables. -/
import Derived.Test.YtmicdbplkfdfnaaGreatDoorRows
import Derived.Lib.LaidIn
import Derived.Lib.LaidU8
import Derived.Lib.LaidCaseMet
import Derived.LaidHandle
import Derived.LaidLaws
import Derived.DataWitness
import Derived.Lib.DecodeN
import Derived.Test.YtmicdbplkfdfnaaGreatDoorChecked
import Derived.WalkKit
import Derived.WalkSpells
import Derived.WalkLawsBesides
import Derived.Maps.AppendAt
import Derived.Laws.AppendOwn
import Derived.Laws.BitsLemmas
import Derived.Deep.DeepMust
set_option linter.unusedVariables false
namespace Go.Proofs.YtmicdbplkfdfnaaGreatDoor
open Go.RowKit Go.Shelf Go.Lib

/-- A table, cell by cell. -/
def u8s : DataW Unit → Array Value
  | .agg l => (l.flatMap fun | .lit (.int k z) => [Value.int k z] | .agg m => m.flatMap (fun | .lit (.int k z) => [Value.int k z] | _ => []) | _ => []).toArray
  | _ => #[]
def laidB (cs : Array Value) : Obj → Obj
  | .cells _ t frozen => .cells cs t frozen
  | o => o
/-- A world with the tables laid. -/
def laidW (w : World) : World := { w with heap := ((((((w.heap.modify 5 (laidB (u8s Rows.laid_math_bits_deBruijn32tab))).modify 6 (laidB (u8s Rows.laid_math_bits_deBruijn64tab))).modify 4 (laidB (u8s Rows.laid_internal_strconv_uint64pow10))).modify 3 (laidB (u8s Rows.laid_unicode_utf8_acceptRanges))).modify 2 (laidB (u8s Go.Pinned.utf8First))).modify 1 (laidB #[.iface 214 (.agg #[.pointer (some ⟨7, 56, none⟩)])])) }
/-- The row's list without the handle. -/
def plainL : List (String × DataW Unit) := [("math/bits.deBruijn32tab", Rows.laid_math_bits_deBruijn32tab), ("math/bits.deBruijn64tab", Rows.laid_math_bits_deBruijn64tab), ("internal/strconv.uint64pow10", Rows.laid_internal_strconv_uint64pow10), ("unicode/utf8.acceptRanges", Rows.laid_unicode_utf8_acceptRanges), ("unicode/utf8.first", Rows.laid_unicode_utf8_first)]
theorem laid_part : (Rows.heapFrozenUptoRow.laid.filter fun x => x.2.handleName?.isNone) = plainL := by kernel_rfl
theorem laid_met (os : Os) : laidMet Tryz.prog plainL ((laidW (World.holding Tryz.prog os ⟨#[], #[], []⟩)).forCall (fun _ _ => 0) ⟨#[], #[.slice none 0 0, .slice none 0 0, .bool false], []⟩).memory :=
  laidMet_of_run' 8 (by kernel_rfl) (by kernel_rfl)
theorem laid_metH (os : Os) : laidMetH Tryz.prog Rows.heapFrozenUptoRow.laid ((laidW (World.holding Tryz.prog os ⟨#[], #[], []⟩)).forCall (fun _ _ => 0) ⟨#[], #[.slice none 0 0, .slice none 0 0, .bool false], []⟩).memory :=
  laidMetH_of_parts (by rw [laid_part]; exact laid_met os) (by kernel_rfl)
theorem vars (os : Os) : ((laidW (World.holding Tryz.prog os ⟨#[], #[], []⟩)).forCall (fun _ _ => 0) ⟨#[], #[.slice none 0 0, .slice none 0 0, .bool false], []⟩).variablesRefB Tryz.prog = true := by kernel_rfl
end Go.Proofs.YtmicdbplkfdfnaaGreatDoor
namespace Go.Proofs.YtmicdbplkfdfnaaGreatDoor
namespace Un

/-- The bytes of a code point, or of a half that stands alone. -/
def encR (r : Nat) : List Nat :=
  if r < 128 then [r]
  else if r < 2048 then [192 + r / 64, 128 + r % 64]
  else if r < 65536 then [224 + r / 4096, 128 + r / 64 % 64, 128 + r % 64]
  else [240 + r / 262144, 128 + r / 4096 % 64, 128 + r / 64 % 64, 128 + r % 64]

def isF (r : Nat) : Bool := decide (55296 ≤ r) && decide (r < 56320)
def isS (r : Nat) : Bool := decide (56320 ≤ r) && decide (r < 57344)

/-- The code points of units. -/
def pts : List Nat → List Nat
  | [] => []
  | [u] => [u]
  | u :: v :: t => if isF u && isS v then (65536 + (u - 55296) * 1024 + v - 56320) :: pts t else u :: pts (v :: t)

/-- The units of a code point. -/
def unR (r : Nat) : List Nat := if r < 65536 then [r] else [55296 + (r - 65536) / 1024, 56320 + (r - 65536) % 1024]

theorem unR_pair (u v : Nat) (h : (isF u && isS v) = true) : unR (65536 + (u - 55296) * 1024 + v - 56320) = [u, v] := by
  simp only [isF, isS, Bool.and_eq_true, decide_eq_true_eq] at h
  unfold unR
  rw [if_neg (by omega)]
  have e1 : 55296 + (65536 + (u - 55296) * 1024 + v - 56320 - 65536) / 1024 = u := by omega
  have e2 : 56320 + (65536 + (u - 55296) * 1024 + v - 56320 - 65536) % 1024 = v := by omega
  rw [e1, e2]

theorem pts_unR : ∀ (l : List Nat), (∀ u ∈ l, u < 65536) → (pts l).flatMap unR = l
  | [], _ => rfl
  | [u], h => by
    have := h u (by simp)
    simp [pts, unR, this]
  | u :: v :: t, h => by
    unfold pts
    split
    · rename_i hh
      rw [List.flatMap_cons, unR_pair u v hh, pts_unR t (fun x hx => h x (by simp [hx]))]
      rfl
    · have hu : u < 65536 := h u (by simp)
      rw [List.flatMap_cons, pts_unR (v :: t) (fun x hx => h x (by simp at hx ⊢; exact .inr hx))]
      simp [unR, hu]

theorem pts_lt : ∀ (l : List Nat), (∀ u ∈ l, u < 65536) → ∀ r ∈ pts l, r ≤ 1114111
  | [], _ => by simp [pts]
  | [u], h => by
    have := h u (by simp)
    simp [pts]; omega
  | u :: v :: t, h => by
    unfold pts
    split
    · rename_i hh
      simp only [isF, isS, Bool.and_eq_true, decide_eq_true_eq] at hh
      intro r hr
      rcases List.mem_cons.1 hr with hr | hr
      · rw [hr]; omega
      · exact pts_lt t (fun x hx => h x (by simp [hx])) r hr
    · intro r hr
      rcases List.mem_cons.1 hr with rfl | hr
      · have := h r (by simp); omega
      · exact pts_lt (v :: t) (fun x hx => h x (by simp at hx ⊢; exact .inr hx)) r hr

theorem encR_lt (r : Nat) (h : r ≤ 1114111) : ∀ b ∈ encR r, b < 256 := by
  unfold encR
  intro b hb
  repeat' split at hb
  all_goals simp only [List.mem_cons, List.not_mem_nil, or_false] at hb
  all_goals omega

theorem encR_len (r : Nat) : 1 ≤ (encR r).length ∧ (encR r).length ≤ 4 := by
  unfold encR
  repeat' split
  all_goals simp

/-- What stands at the front of four bytes (n: how many bytes there are), with the halves looked for. -/
def pointN (n b0 b1 b2 b3 : Nat) : Nat × Nat :=
  if Lib.decodeN n b0 b1 b2 b3 = (65533, 1) ∧ 3 ≤ n ∧ b0 = 237 ∧ b1 / 32 = 5 ∧ b2 / 64 = 2 then (55296 + b1 % 32 * 64 + b2 % 64, 3) else Lib.decodeN n b0 b1 b2 b3

set_option maxRecDepth 100000 in
theorem pointN_encR (r n b0 b1 b2 b3 : Nat) (h : r ≤ 1114111) (hn : (encR r).length ≤ n) (e0 : (encR r)[0]?.getD 0 = b0) (e1 : 1 < (encR r).length → (encR r)[1]?.getD 0 = b1)
    (e2 : 2 < (encR r).length → (encR r)[2]?.getD 0 = b2) (e3 : 3 < (encR r).length → (encR r)[3]?.getD 0 = b3) : pointN n b0 b1 b2 b3 = (r, (encR r).length) := by
  unfold encR at hn e0 e1 e2 e3 ⊢
  by_cases h1 : r < 128
  · simp only [h1, if_true] at hn e0 ⊢
    simp at e0 hn
    subst e0
    have hd : Lib.decodeN n r b1 b2 b3 = (r, 1) := by
      unfold Lib.decodeN
      rw [if_pos h1]
    unfold pointN
    rw [hd, if_neg (by omega)]
    rfl
  by_cases h2 : r < 2048
  · simp only [h1, h2, if_true, if_false] at hn e0 e1 ⊢
    simp at e0 e1 hn
    subst e0; subst e1
    have g1 : ¬ (192 + r / 64 < 128) := by omega
    have g2 : (192 + r / 64) / 32 = 6 ∧ (1 < n ∧ (128 + r % 64) / 64 = 2) := by omega
    have g3 : (192 + r / 64) % 32 * 64 + (128 + r % 64) % 64 = r := by omega
    have hd : Lib.decodeN n (192 + r / 64) (128 + r % 64) b2 b3 = (r, 2) := by
      unfold Lib.decodeN
      rw [if_neg g1, if_pos g2, g3, if_pos (by omega)]
    unfold pointN
    rw [hd, if_neg (by simp)]
    rfl
  by_cases h3 : r < 65536
  · simp only [h1, h2, h3, if_true, if_false] at hn e0 e1 e2 ⊢
    simp at e0 e1 e2 hn
    subst e0; subst e1; subst e2
    have g1 : ¬ (224 + r / 4096 < 128) := by omega
    have g2 : ¬ ((224 + r / 4096) / 32 = 6 ∧ (1 < n ∧ (128 + r / 64 % 64) / 64 = 2)) := by omega
    have g3 : (224 + r / 4096) / 16 = 14 ∧ (1 < n ∧ (128 + r / 64 % 64) / 64 = 2) ∧ (2 < n ∧ (128 + r % 64) / 64 = 2) := by omega
    have g4 : (224 + r / 4096) % 16 * 4096 + (128 + r / 64 % 64) % 64 * 64 + (128 + r % 64) % 64 = r := by omega
    by_cases hs : 55296 ≤ r ∧ r < 57344
    · have hd : Lib.decodeN n (224 + r / 4096) (128 + r / 64 % 64) (128 + r % 64) b3 = (65533, 1) := by
        unfold Lib.decodeN
        rw [if_neg g1, if_neg g2, if_pos g3, g4, if_neg (by omega)]
      unfold pointN
      rw [hd, if_pos ⟨rfl, by omega, by omega, by omega, by omega⟩]
      refine Prod.ext ?_ rfl
      show 55296 + (128 + r / 64 % 64) % 32 * 64 + (128 + r % 64) % 64 = r
      omega
    · have hd : Lib.decodeN n (224 + r / 4096) (128 + r / 64 % 64) (128 + r % 64) b3 = (r, 3) := by
        unfold Lib.decodeN
        rw [if_neg g1, if_neg g2, if_pos g3, g4, if_pos (by omega)]
      unfold pointN
      rw [hd, if_neg (by simp)]
      rfl
  · simp only [h1, h2, h3, if_false] at hn e0 e1 e2 e3 ⊢
    simp at e0 e1 e2 e3 hn
    subst e0; subst e1; subst e2; subst e3
    have g1 : ¬ (240 + r / 262144 < 128) := by omega
    have g2 : ¬ ((240 + r / 262144) / 32 = 6 ∧ (1 < n ∧ (128 + r / 4096 % 64) / 64 = 2)) := by omega
    have g3 : ¬ ((240 + r / 262144) / 16 = 14 ∧ (1 < n ∧ (128 + r / 4096 % 64) / 64 = 2) ∧ (2 < n ∧ (128 + r / 64 % 64) / 64 = 2)) := by omega
    have g4 : (240 + r / 262144) / 8 = 30 ∧ (1 < n ∧ (128 + r / 4096 % 64) / 64 = 2) ∧ (2 < n ∧ (128 + r / 64 % 64) / 64 = 2) ∧ (3 < n ∧ (128 + r % 64) / 64 = 2) := by omega
    have g5 : (240 + r / 262144) % 8 * 262144 + (128 + r / 4096 % 64) % 64 * 4096 + (128 + r / 64 % 64) % 64 * 64 + (128 + r % 64) % 64 = r := by omega
    have hd : Lib.decodeN n (240 + r / 262144) (128 + r / 4096 % 64) (128 + r / 64 % 64) (128 + r % 64) = (r, 4) := by
      unfold Lib.decodeN
      rw [if_neg g1, if_neg g2, if_neg g3, if_pos g4, g5, if_pos (by omega)]
    unfold pointN
    rw [hd, if_neg (by simp)]
    rfl

end Un
end Go.Proofs.YtmicdbplkfdfnaaGreatDoor
set_option linter.unusedVariables false
namespace Go.Proofs.YtmicdbplkfdfnaaGreatDoor
open Go.RowKit
theorem info5 : (Tryz.prog.info? 5).map (fun i => (i.zero, i.size, i.bytes)) = some (some (.int .u8 0), 1, 1) := by kernel_rfl
theorem info24 : (Tryz.prog.info? 86).map (fun i => (i.zero, i.size, i.bytes)) = some (some (.int .u16 0), 1, 2) := by kernel_rfl

theorem i32_and63 (x : Int) (h0 : 0 ≤ x) (h1 : x < 2147483648) : bits .and .i32 x 63 = x % 64 := bits_mask .i32 31 (by decide) wraps_i32 6 (by decide) x h0 h1
theorem or224 (q : Int) (h0 : 0 ≤ q) (h1 : q < 16) : bits .or .i32 224 q % 256 = 224 + q := by
  rw [bits_join .i32 31 (by decide) wraps_i32 5 224 q (by decide) (by decide) (by decide) h0 (by omega) (by omega)]
  omega
theorem or128 (x : Int) (h0 : 0 ≤ x) (h1 : x < 2147483648) : bits .or .i32 128 (bits .and .i32 x 63) % 256 = 128 + x % 64 := by
  rw [i32_and63 x h0 h1, bits_join .i32 31 (by decide) wraps_i32 6 128 (x % 64) (by decide) (by decide) (by decide) (by omega) (by omega) (by omega)]
  omega

/-- New cells, as a list. -/
theorem cells_new (w : World) (l : List Value) (t : TypeId) : ∀ j u, l[j]? = some u → (w.alloc (.cells l.toArray t)).cell? ((⟨w.heap.size, 0, none⟩ : Addr).add j) = some u := by
  intro j u hj
  have e : ((⟨w.heap.size, 0, none⟩ : Addr).add j) = ⟨w.heap.size, j, none⟩ := by
    unfold Addr.add
    split <;> simp_all
  rw [e]
  have h := heap_alloc_new w (Obj.cells l.toArray t)
  simp only [World.cell?, h]
  simpa using hj
theorem one_ints (k : IntKind) (l : List Int) : ∀ u ∈ l.map (Value.int k), u.oneCell' = true := by
  intro u hu
  obtain ⟨x, _, rfl⟩ := List.mem_map.1 hu
  rfl

set_option maxHeartbeats 1000000 in
set_option maxRecDepth 100000 in
theorem app_half (B : Nat) (v : Value) (n : Nat) (xs : List Value) (r : Int) (h0 : 55296 ≤ r) (h1 : r < 57344) (w : World) (hown : w.ownsRow B 5 1 v n xs) (hlen : n + 4 ≤ 140737488355328) (hBw : B ≤ w.heap.size) :
    Calls Tryz.prog 108 #[v, .int .i32 r] w fun e w' => ∃ v', e = .returned v' ∧ w'.ownsRow B 5 1 v' (n + 3) (xs ++ [.int .u8 (224 + r / 4096), .int .u8 (128 + r / 64 % 64), .int .u8 (128 + r % 64)]) ∧ ∃ o, (w.alloc o).grownBy w' v.ownBlock := by
  obtain ⟨i0, hi, hz0, hz1, hz2⟩ := info_parts info5
  have b1 := or224 (r / 4096) (by omega) (by omega)
  have b2 := or128 (r / 64) (by omega) (by omega)
  have b3 := or128 r (by omega) (by omega)
  have q3 : n + 3 ≤ maxLen := by unfold maxLen; omega
  by_cases hf : r < 56320
  all_goals
    go_enter Tryz.func108, Tryz.ntmps108
    go_wp2_with (first | (at_builtin; refine wpList_append_own _ rfl _ _ 133 rfl B 5 i0 (.int .u8 0) 1 1 Tryz.underlying133 hi hz0 hz1 hz2 rfl (by decide) _ _ _ rfl (hown.alloc _) ⟨w.heap.size, 0, none⟩ 3 3 [.int .u8 (224 + r / 4096), .int .u8 (128 + r / 64 % 64), .int .u8 (128 + r % 64)] rfl rfl (cells_new w [.int .u8 (224 + r / 4096), .int .u8 (128 + r / 64 % 64), .int .u8 (128 + r % 64)] 5) (one_ints .u8 [224 + r / 4096, 128 + r / 64 % 64, 128 + r % 64]) q3 (by omega) (by simp; omega) ?_; intro v' w2 hown' hgrow _) | go_in)
    go_ret
    exact ⟨_, rfl, hown', _, hgrow⟩

set_option maxHeartbeats 1000000 in
set_option maxRecDepth 100000 in
theorem app_one (B : Nat) (v : Value) (n : Nat) (xs : List Value) (r : Int) (h0 : 0 ≤ r) (h1 : r < 128) (w : World) (hown : w.ownsRow B 5 1 v n xs) (hlen : n + 4 ≤ 140737488355328) (hBw : B ≤ w.heap.size) :
    Calls Tryz.prog 108 #[v, .int .i32 r] w fun e w' => ∃ v', e = .returned v' ∧ w'.ownsRow B 5 1 v' (n + 1) (xs ++ [.int .u8 r]) ∧ ∃ o, (w.alloc o).grownBy w' v.ownBlock := by
  obtain ⟨i0, hi, hz0, hz1, hz2⟩ := info_parts info5
  have q3 : n + 1 ≤ maxLen := by unfold maxLen; omega
  go_enter Tryz.func108, Tryz.ntmps108
  go_wp2_with (first | (at_builtin; refine wpList_append_own _ rfl _ _ 133 rfl B 5 i0 (.int .u8 0) 1 1 Tryz.underlying133 hi hz0 hz1 hz2 rfl (by decide) _ _ _ rfl (hown.alloc _) ⟨w.heap.size, 0, none⟩ 1 1 [.int .u8 r] rfl rfl (cells_new w [.int .u8 r] 5) (one_ints .u8 [r]) q3 (by omega) (by simp; omega) ?_; intro v' w2 hown' hgrow _) | go_in)
  go_ret
  exact ⟨_, rfl, hown', _, hgrow⟩

set_option maxHeartbeats 1000000 in
set_option maxRecDepth 100000 in
theorem app_two (B : Nat) (v : Value) (n : Nat) (xs : List Value) (r : Int) (h0 : 128 ≤ r) (h1 : r < 2048) (w : World) (hown : w.ownsRow B 5 1 v n xs) (hlen : n + 4 ≤ 140737488355328) (hBw : B ≤ w.heap.size) :
    Calls Tryz.prog 108 #[v, .int .i32 r] w fun e w' => ∃ v', e = .returned v' ∧ w'.ownsRow B 5 1 v' (n + 2) (xs ++ [.int .u8 (192 + r / 64), .int .u8 (128 + r % 64)]) ∧ ∃ o, (w.alloc o).grownBy w' v.ownBlock := by
  obtain ⟨i0, hi, hz0, hz1, hz2⟩ := info_parts info5
  have q3 : n + 2 ≤ maxLen := by unfold maxLen; omega
  go_enter Tryz.func108, Tryz.ntmps108
  go_wp2_with (first | (at_builtin; refine wpList_append_own _ rfl _ _ 133 rfl B 5 i0 (.int .u8 0) 1 1 Tryz.underlying133 hi hz0 hz1 hz2 rfl (by decide) _ _ _ rfl (hown.alloc _) ⟨w.heap.size, 0, none⟩ 2 2 [.int .u8 (192 + r / 64), .int .u8 (128 + r % 64)] rfl rfl (cells_new w [.int .u8 (192 + r / 64), .int .u8 (128 + r % 64)] 5) (one_ints .u8 [192 + r / 64, 128 + r % 64]) q3 (by omega) (by simp; omega) ?_; intro v' w2 hown' hgrow _) | go_in)
  go_ret
  exact ⟨_, rfl, hown', _, hgrow⟩

set_option maxHeartbeats 1000000 in
set_option maxRecDepth 100000 in
theorem app_three (B : Nat) (v : Value) (n : Nat) (xs : List Value) (r : Int) (hr : (2048 ≤ r ∧ r < 55296) ∨ (57343 < r ∧ r ≤ 65535)) (w : World) (hown : w.ownsRow B 5 1 v n xs) (hlen : n + 4 ≤ 140737488355328) (hBw : B ≤ w.heap.size) :
    Calls Tryz.prog 108 #[v, .int .i32 r] w fun e w' => ∃ v', e = .returned v' ∧ w'.ownsRow B 5 1 v' (n + 3) (xs ++ [.int .u8 (224 + r / 4096), .int .u8 (128 + r / 64 % 64), .int .u8 (128 + r % 64)]) ∧ ∃ o, (w.alloc o).grownBy w' v.ownBlock := by
  obtain ⟨i0, hi, hz0, hz1, hz2⟩ := info_parts info5
  have q3 : n + 3 ≤ maxLen := by unfold maxLen; omega
  rcases hr with ⟨h0, h1⟩ | ⟨h0, h1⟩
  all_goals
    go_enter Tryz.func108, Tryz.ntmps108
    go_wp2_with (first | (at_builtin; refine wpList_append_own _ rfl _ _ 133 rfl B 5 i0 (.int .u8 0) 1 1 Tryz.underlying133 hi hz0 hz1 hz2 rfl (by decide) _ _ _ rfl (hown.alloc _) ⟨w.heap.size, 0, none⟩ 3 3 [.int .u8 (224 + r / 4096), .int .u8 (128 + r / 64 % 64), .int .u8 (128 + r % 64)] rfl rfl (cells_new w [.int .u8 (224 + r / 4096), .int .u8 (128 + r / 64 % 64), .int .u8 (128 + r % 64)] 5) (one_ints .u8 [224 + r / 4096, 128 + r / 64 % 64, 128 + r % 64]) q3 (by omega) (by simp; omega) ?_; intro v' w2 hown' hgrow _) | go_in)
    go_ret
    exact ⟨_, rfl, hown', _, hgrow⟩

set_option maxHeartbeats 1000000 in
set_option maxRecDepth 100000 in
theorem app_four (B : Nat) (v : Value) (n : Nat) (xs : List Value) (r : Int) (h0 : 65535 < r) (h1 : r ≤ 1114111) (w : World) (hown : w.ownsRow B 5 1 v n xs) (hlen : n + 4 ≤ 140737488355328) (hBw : B ≤ w.heap.size) :
    Calls Tryz.prog 108 #[v, .int .i32 r] w fun e w' => ∃ v', e = .returned v' ∧ w'.ownsRow B 5 1 v' (n + 4) (xs ++ [.int .u8 (240 + r / 262144), .int .u8 (128 + r / 4096 % 64), .int .u8 (128 + r / 64 % 64), .int .u8 (128 + r % 64)]) ∧ ∃ o, (w.alloc o).grownBy w' v.ownBlock := by
  obtain ⟨i0, hi, hz0, hz1, hz2⟩ := info_parts info5
  have q3 : n + 4 ≤ maxLen := by unfold maxLen; omega
  go_enter Tryz.func108, Tryz.ntmps108
  go_wp2_with (first | (at_builtin; refine wpList_append_own _ rfl _ _ 133 rfl B 5 i0 (.int .u8 0) 1 1 Tryz.underlying133 hi hz0 hz1 hz2 rfl (by decide) _ _ _ rfl (hown.alloc _) ⟨w.heap.size, 0, none⟩ 4 4 [.int .u8 (240 + r / 262144), .int .u8 (128 + r / 4096 % 64), .int .u8 (128 + r / 64 % 64), .int .u8 (128 + r % 64)] rfl rfl (cells_new w [.int .u8 (240 + r / 262144), .int .u8 (128 + r / 4096 % 64), .int .u8 (128 + r / 64 % 64), .int .u8 (128 + r % 64)] 5) (one_ints .u8 [240 + r / 262144, 128 + r / 4096 % 64, 128 + r / 64 % 64, 128 + r % 64]) q3 (by omega) (by simp; omega) ?_; intro v' w2 hown' hgrow _) | go_in)
  go_ret
  exact ⟨_, rfl, hown', _, hgrow⟩

/-- A byte as a cell. -/
def bv (b : Nat) : Value := .int .u8 (b : Int)
/-- **appendText, at every code point and every half that stands alone.** -/
theorem appendText_any (B : Nat) (v : Value) (n : Nat) (xs : List Value) (r : Nat) (hr : r ≤ 1114111) (w : World) (hown : w.ownsRow B 5 1 v n xs) (hlen : n + 4 ≤ 140737488355328) (hBw : B ≤ w.heap.size) :
    Calls Tryz.prog 108 #[v, .int .i32 (r : Int)] w fun e w' => ∃ v', e = .returned v' ∧ w'.ownsRow B 5 1 v' (n + (Un.encR r).length) (xs ++ (Un.encR r).map bv) ∧ ∃ o, (w.alloc o).grownBy w' v.ownBlock := by
  unfold Un.encR
  by_cases h1 : r < 128
  · rw [if_pos h1]
    exact app_one B v n xs r (by omega) (by omega) w hown hlen hBw
  rw [if_neg h1]
  by_cases h2 : r < 2048
  · rw [if_pos h2]
    exact app_two B v n xs r (by omega) (by omega) w hown hlen hBw
  rw [if_neg h2]
  by_cases h3 : r < 65536
  · rw [if_pos h3]
    by_cases hh : 55296 ≤ r ∧ r < 57344
    · exact app_half B v n xs r (by omega) (by omega) w hown hlen hBw
    · exact app_three B v n xs r (by omega) w hown hlen hBw
  rw [if_neg h3]
  exact app_four B v n xs r (by omega) (by omega) w hown hlen hBw
end Go.Proofs.YtmicdbplkfdfnaaGreatDoor
