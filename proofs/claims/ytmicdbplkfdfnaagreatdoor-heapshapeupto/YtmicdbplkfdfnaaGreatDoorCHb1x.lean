/- Compare; the search for a number; Numbered. -/
import Derived.Test.YtmicdbplkfdfnaaGreatDoorCFxWx
import Derived.Test.YtmicdbplkfdfnaaGreatDoorCHuS
import Derived.WalkSmall
import Derived.Below
import Derived.Carry
import Derived.Laws.Rows
import Derived.Maps.Own
import Derived.Maps.Views
import Derived.StringKeys
import Derived.Deep.QuietTactic
import Derived.BigQuiet
import Derived.DeepKeys4
import Derived.WalkKit
import Derived.OwnWalk
import Derived.Deep.Draws
set_option linter.unusedVariables false
namespace Go.Proofs.YtmicdbplkfdfnaaGreatDoor
open Go.RowKit Go.Shelf

theorem isNaN_int (x : Int) (w : World) : Calls Tryz.prog 71 #[.int .i64 x] w fun e w' => e = .returned (.bool false) ∧ w' = w := by
  go_enter Tryz.func71, Tryz.ntmps71
  go_wp2
  go_ret
  exact ⟨by simp, rfl⟩
def cmpI (x y : Int) : Int := if x < y then -1 else if y < x then 1 else 0
theorem compare_any (x y : Int) (w : World) : Calls Tryz.prog 44 #[.int .i64 x, .int .i64 y] w fun e w' => e = .returned (.int .i64 (cmpI x y)) ∧ w' = w := by
  have c := isNaN_int
  unfold cmpI
  by_cases h : x < y
  · rw [if_pos h]
    go_enter Tryz.func44, Tryz.ntmps44
    go_wp2_with (first | (go_at_call 71; refine (c _ _).mono ?_; rintro e w1 ⟨rfl, rfl⟩))
    go_ret
    exact ⟨rfl, rfl⟩
  · rw [if_neg h]
    by_cases h2 : y < x
    · rw [if_pos h2]
      go_enter Tryz.func44, Tryz.ntmps44
      go_wp2_with (first | (go_at_call 71; refine (c _ _).mono ?_; rintro e w1 ⟨rfl, rfl⟩))
      go_ret
      exact ⟨rfl, rfl⟩
    · rw [if_neg h2]
      go_enter Tryz.func44, Tryz.ntmps44
      go_wp2_with (first | (go_at_call 71; refine (c _ _).mono ?_; rintro e w1 ⟨rfl, rfl⟩))
      go_ret
      exact ⟨rfl, rfl⟩
theorem cmpNum_any (b : Nat) (k n : Int) (w : World) (hk : w.cell? ⟨b, 4, none⟩ = some (.int .i64 k)) : Calls Tryz.prog 43 #[.pointer (some ⟨b, 0, none⟩), .int .i64 n] w fun e w' => e = .returned (.int .i64 (cmpI k n)) ∧ w' = w := by
  have c := compare_any k n w
  go_enter Tryz.func43, Tryz.ntmps43
  go_wp2_with (first | (go_at_call 44; refine c.mono ?_; rintro e w1 ⟨rfl, rfl⟩))
  go_ret
  exact ⟨rfl, rfl⟩
/-- Where the number would stand among 1, 2, .. m. -/
def posN (n : Int) (m : Nat) : Nat := min m (n - 1).toNat
set_option maxRecDepth 100000 in
set_option maxHeartbeats 2000000 in
theorem bs_any (g cap : Nat) (l : List Nat) (hl : l.length ≤ 1000000) (n : Int) (w : World)
    (hc : ∀ i b, l[i]? = some b → w.cell? ⟨g, i, none⟩ = some (.pointer (some ⟨b, 0, none⟩)) ∧ w.cell? ⟨b, 4, none⟩ = some (.int .i64 ((i : Int) + 1))) :
    Calls Tryz.prog 42 #[.slice (some ⟨g, 0, none⟩) l.length cap, .int .i64 n, .func (.func 43) #[] #[]] w fun e w' => e = .returned (.tuple #[.int .i64 ((posN n l.length : Nat) : Int), .bool (decide (1 ≤ n ∧ n ≤ (l.length : Int)))]) ∧ w' = w := by
  have HC := (show Hid _ from hc)
  obtain ⟨a, ha⟩ : ∃ a, a = posN n l.length := ⟨_, rfl⟩
  have HA : Hid (a = posN n l.length) := ha
  have ham : a ≤ l.length := by rw [ha]; unfold posN; omega
  have hiff : ∀ i : Nat, i < l.length → ((i : Int) + 1 < n ↔ i < a) := by
    intro i hi
    rw [ha]; unfold posN; omega
  have HI := (show Hid _ from hiff)
  rw [← ha]
  clear hc ha hiff
  go_enter Tryz.func42, Tryz.ntmps42
  go_wp2
  go_loopw [9, 10, 11] (fun i j _ wr => ∃ (p q : Nat), p ≤ a ∧ a ≤ q ∧ q ≤ l.length ∧ i = .int .i64 p ∧ j = .int .i64 q ∧ wr = w)
    (fun i j _ _ => (intOf j).toNat - (intOf i).toNat)
  case atStart => exact ⟨0, l.length, Nat.zero_le _, ham, Nat.le_refl _, rfl, rfl, rfl⟩
  case round =>
    obtain ⟨p, q, h1, h2, h3, rfl, rfl, rfl⟩ := hrel
    by_cases hlt : p < q
    · obtain ⟨h, hh⟩ : ∃ h, h = (p + q) / 2 := ⟨_, rfl⟩
      have hh1 : p ≤ h := by omega
      have hh2 : h < q := by omega
      obtain ⟨b, hb⟩ : ∃ b, l[h]? = some b := ⟨_, List.getElem?_eq_getElem (by omega)⟩
      obtain ⟨hcg, hcn⟩ := HC.out h b hb
      have cc := cmpNum_any b ((h : Int) + 1) n wr hcn
      have e1 : ((p : Int) + (q : Int)) / 2 = (h : Int) := by omega
      have v1 : IntKind.i64.wrap ((p : Int) + (q : Int)) = (p : Int) + (q : Int) := by rw [IntKind.wrap_i64]; omega
      have v2 : IntKind.u64.wrap ((p : Int) + (q : Int)) = (p : Int) + (q : Int) := by rw [IntKind.wrap_u64]; omega
      have v3 : IntKind.i64.wrap (h : Int) = (h : Int) := by rw [IntKind.wrap_i64]; omega
      have hi := HI.out h (by omega)
      clear hh hb hcn
      have hz : (cmpI ((h : Int) + 1) n < 0) ↔ h < a := by
        rw [← hi]
        unfold cmpI
        split
        · simp; assumption
        · split <;> simp <;> omega
      generalize cmpI ((h : Int) + 1) n = z at *
      clear hi
      by_cases hza : h < a
      · have hz1 : z < 0 := hz.2 hza
        clear hz
        go_wp2_with (first | (go_at_call 43; refine cc.mono ?_; rintro e w1 ⟨rfl, rfl⟩))
        go_roundw
        case rel => exact ⟨h + 1, q, by omega, h2, h3, by go_num, rfl, trivial⟩
        case measure => simp [intOf]; omega
      · have hz1 : ¬ z < 0 := fun hc => hza (hz.1 hc)
        clear hz
        go_wp2_with (first | (go_at_call 43; refine cc.mono ?_; rintro e w1 ⟨rfl, rfl⟩))
        go_roundw
        case rel => exact ⟨p, h, h1, by omega, by omega, rfl, rfl, trivial⟩
        case measure => simp [intOf]; omega
    · have hp : p = a := by omega
      subst hp
      by_cases hpm : p < l.length
      · obtain ⟨b, hb⟩ : ∃ b, l[p]? = some b := ⟨_, List.getElem?_eq_getElem hpm⟩
        obtain ⟨hcg, hcn⟩ := HC.out p b hb
        have cc := cmpNum_any b ((p : Int) + 1) n wr hcn
        have hz : (cmpI ((p : Int) + 1) n == 0) = decide (1 ≤ n ∧ n ≤ (l.length : Int)) := by
          have := HA.out
          unfold posN at this
          unfold cmpI
          split
          · rw [decide_eq_false (by omega)]; rfl
          · split
            · rw [decide_eq_false (by omega)]; rfl
            · rw [decide_eq_true (by omega)]; rfl
        have HZ := (show Hid _ from hz)
        clear hb hcn hz
        go_wp2_with (first | (go_at_call 43; refine cc.mono ?_; rintro e w1 ⟨rfl, rfl⟩))
        go_ret2
        exact ⟨by rw [← HZ.out]; rfl, rfl⟩
      · have hz : decide (1 ≤ n ∧ n ≤ (l.length : Int)) = false := by
          have := HA.out
          unfold posN at this
          exact decide_eq_false (by omega)
        have HZ := (show Hid _ from hz)
        clear hz
        go_wp2
        go_ret2
        exact ⟨by rw [HZ.out]; rfl, rfl⟩
theorem bs_nil (n : Int) (w : World) :
    Calls Tryz.prog 42 #[.slice none 0 0, .int .i64 n, .func (.func 43) #[] #[]] w fun e w' => e = .returned (.tuple #[.int .i64 0, .bool false]) ∧ w' = w := by
  go_enter Tryz.func42, Tryz.ntmps42
  go_wp2
  refine wp_loop_rounds 1 ?_
  rw [rounds_succ]
  go_wp2
  go_ret2
  exact ⟨rfl, rfl⟩
/-- The objects of a heap, by their numbers 1, 2, ..: block H is the heap, l are the objects' blocks. -/
def Objs (w : World) (H : Nat) (l : List Nat) : Prop :=
  l.length ≤ 1000000 ∧ ((l = [] ∧ w.cell? ⟨H, 0, none⟩ = some (.slice none 0 0)) ∨
    (l ≠ [] ∧ ∃ g cap, w.cell? ⟨H, 0, none⟩ = some (.slice (some ⟨g, 0, none⟩) l.length cap) ∧
      ∀ i b, l[i]? = some b → w.cell? ⟨g, i, none⟩ = some (.pointer (some ⟨b, 0, none⟩)) ∧ w.cell? ⟨b, 4, none⟩ = some (.int .i64 ((i : Int) + 1))))
/-- The object with a number, as a pointer. -/
def objP (l : List Nat) (n : Int) : Value := if 1 ≤ n then (match l[(n - 1).toNat]? with | some b => .pointer (some ⟨b, 0, none⟩) | none => .pointer none) else .pointer none
set_option maxRecDepth 100000 in
set_option maxHeartbeats 2000000 in
theorem numbered_any (H : Nat) (l : List Nat) (n : Int) (w : World) (h : Objs w H l) :
    Calls Tryz.prog 21 #[.pointer (some ⟨H, 0, none⟩), .int .i64 n] w fun e w' => e = .returned (objP l n) ∧ w' = w := by
  obtain ⟨hl, ⟨rfl, hc⟩ | ⟨hne, g, cap, hc, hcs⟩⟩ := h
  · have c := bs_nil n w
    have e : objP [] n = .pointer none := by unfold objP; split <;> rfl
    rw [e]
    clear e
    go_enter Tryz.func21, Tryz.ntmps21
    go_wp2_with (first | (go_at_call 42; refine c.mono ?_; rintro e w1 ⟨rfl, rfl⟩))
    go_ret
    exact ⟨rfl, rfl⟩
  · have c := bs_any g cap l hl n w hcs
    by_cases hn : 1 ≤ n ∧ n ≤ (l.length : Int)
    · rw [decide_eq_true hn] at c
      obtain ⟨b, hb⟩ : ∃ b, l[(n - 1).toNat]? = some b := ⟨_, List.getElem?_eq_getElem (by omega)⟩
      have e : objP l n = .pointer (some ⟨b, 0, none⟩) := by unfold objP; rw [if_pos hn.1, hb]
      rw [e]
      obtain ⟨k, hk⟩ : ∃ k, k = posN n l.length := ⟨_, rfl⟩
      rw [← hk] at c
      have hk2 : k = (n - 1).toNat := by rw [hk]; unfold posN; omega
      rw [← hk2] at hb
      have hkl : k < l.length := by omega
      have hb2 := (hcs k b hb).1
      clear e hcs hk hk2 hb hne
      go_enter Tryz.func21, Tryz.ntmps21
      go_wp2_with (first | (go_at_call 42; refine c.mono ?_; rintro e w1 ⟨rfl, rfl⟩))
      go_ret
      exact ⟨rfl, rfl⟩
    · rw [decide_eq_false hn] at c
      have e : objP l n = .pointer none := by
        unfold objP
        split
        · rw [List.getElem?_eq_none (by omega)]
        · rfl
      rw [e]
      generalize posN n l.length = k at *
      clear e hcs
      go_enter Tryz.func21, Tryz.ntmps21
      go_wp2_with (first | (go_at_call 42; refine c.mono ?_; rintro e w1 ⟨rfl, rfl⟩))
      go_ret
      exact ⟨rfl, rfl⟩
end Go.Proofs.YtmicdbplkfdfnaaGreatDoor
set_option linter.unusedVariables false
namespace Go.Proofs.YtmicdbplkfdfnaaGreatDoor
open Go.RowKit Go.Shelf

theorem objP_hit {l : List Nat} {n : Int} {b : Nat} (h1 : 1 ≤ n) (hb : l[(n - 1).toNat]? = some b) : objP l n = .pointer (some ⟨b, 0, none⟩) := by unfold objP; rw [if_pos h1, hb]
theorem objP_none {l : List Nat} {n : Int} (hn : ¬ (1 ≤ n ∧ n ≤ (l.length : Int))) : objP l n = .pointer none := by
  unfold objP
  split
  · rw [List.getElem?_eq_none (by omega)]
  · rfl
/-- The world behind a new shape. -/
def wShape (w : World) : World := ((w.alloc (Obj.map #[] 0)).alloc (Obj.cells #[.slice none 0 0, .map (some w.heap.size), .int .i64 0] 121)).alloc (Obj.cells #[.pointer (some ⟨w.heap.size + 1, 0, none⟩), .int .i64 0, .pointer none, .map none, .bool false, .bool false] 118)
theorem newShape_any (w : World) : Calls Tryz.prog 34 #[] w fun e w' => e = .returned (.pointer (some ⟨w.heap.size + 1 + 1, 0, none⟩)) ∧ w' = wShape w := by
  have hmm := @run_makeMap Tryz.prog
  go_enter Tryz.func34, Tryz.ntmps34
  go_wp2
  go_ret
  exact ⟨rfl, rfl⟩
theorem wShape_size (w : World) : (wShape w).heap.size = w.heap.size + 1 + 1 + 1 := by simp [wShape]
/-- The world behind a new heap. -/
def wHeap (w : World) : World := (wShape w).alloc (Obj.cells #[.slice none 0 0, .int .i64 0, .int .i64 0, .int .i64 0, .pointer (some ⟨w.heap.size + 1 + 1, 0, none⟩), .int .i64 0, .int .i64 0] 91)
theorem heapNew_any (w : World) : Calls Tryz.prog 17 #[] w fun e w' => e = .returned (.pointer (some ⟨w.heap.size + 1 + 1 + 1, 0, none⟩)) ∧ w' = wHeap w := by
  have c := newShape_any w
  obtain ⟨W, hW⟩ : ∃ W, W = wShape w := ⟨_, rfl⟩
  have hs : W.heap.size = w.heap.size + 1 + 1 + 1 := by rw [hW]; exact wShape_size w
  unfold wHeap
  rw [← hW] at c ⊢
  clear hW
  go_enter Tryz.func17, Tryz.ntmps17
  go_wp2_with (first | (go_at_call 34; refine c.mono ?_; rintro e w1 ⟨rfl, rfl⟩))
  go_ret
  exact ⟨by rw [← hs]; rfl, rfl⟩
theorem wHeap_size (w : World) : (wHeap w).heap.size = w.heap.size + 1 + 1 + 1 + 1 := by simp [wHeap, wShape_size]
def wNew (w : World) : World := (wHeap w).alloc (Obj.cells #[.pointer (some ⟨w.heap.size + 1 + 1 + 1, 0, none⟩)] 54)
theorem new_any (w : World) : Calls Tryz.prog 5 #[] w fun e w' => e = .returned (.pointer (some ⟨w.heap.size + 1 + 1 + 1 + 1, 0, none⟩)) ∧ w' = wNew w := by
  have c := heapNew_any w
  obtain ⟨W, hW⟩ : ∃ W, W = wHeap w := ⟨_, rfl⟩
  have hs : W.heap.size = w.heap.size + 1 + 1 + 1 + 1 := by rw [hW]; exact wHeap_size w
  unfold wNew
  rw [← hW] at c ⊢
  clear hW
  go_enter Tryz.func5, Tryz.ntmps5
  go_wp2_with (first | (go_at_call 17; refine c.mono ?_; rintro e w1 ⟨rfl, rfl⟩))
  go_ret
  exact ⟨by rw [← hs]; rfl, rfl⟩
theorem number_any (b : Nat) (k : Int) (w : World) (hk : w.cell? ⟨b, 4, none⟩ = some (.int .i64 k)) : Calls Tryz.prog 38 #[.pointer (some ⟨b, 0, none⟩)] w fun e w' => e = .returned (.int .i64 k) ∧ w' = w := by
  go_enter Tryz.func38, Tryz.ntmps38
  go_wp2
  go_ret
  exact ⟨rfl, rfl⟩
theorem orNone_any (O H : Nat) (l : List Nat) (n : Int) (w : World) (hO : w.cell? ⟨O, 0, none⟩ = some (.pointer (some ⟨H, 0, none⟩))) (h : Objs w H l) :
    Calls Tryz.prog 35 #[.pointer (some ⟨O, 0, none⟩), .int .i64 n] w fun e w' => e = .returned (.tuple #[objP l n, .bool (decide (n = 0) || decide (1 ≤ n ∧ n ≤ (l.length : Int)))]) ∧ w' = w := by
  have c := numbered_any H l n w h
  by_cases hn : 1 ≤ n ∧ n ≤ (l.length : Int)
  · obtain ⟨b, hb⟩ : ∃ b, l[(n - 1).toNat]? = some b := ⟨_, List.getElem?_eq_getElem (by omega)⟩
    rw [objP_hit hn.1 hb] at c ⊢
    rw [decide_eq_true hn, Bool.or_true]
    clear h hb
    go_enter Tryz.func35, Tryz.ntmps35
    go_wp2_with (first | (go_at_call 21; refine c.mono ?_; rintro e w1 ⟨rfl, rfl⟩))
    go_ret2
    exact ⟨rfl, rfl⟩
  · rw [objP_none hn] at c ⊢
    rw [decide_eq_false hn, Bool.or_false]
    clear h hn
    by_cases h0 : n = 0
    · subst h0
      go_enter Tryz.func35, Tryz.ntmps35
      go_wp2_with (first | (go_at_call 21; refine c.mono ?_; rintro e w1 ⟨rfl, rfl⟩))
      go_ret2
      exact ⟨rfl, rfl⟩
    · rw [decide_eq_false h0]
      have k0 : (n == 0) = false := by rw [beq_eq_false_iff_ne]; exact h0
      clear h0
      go_enter Tryz.func35, Tryz.ntmps35
      go_wp2_with (first | (go_at_call 21; refine c.mono ?_; rintro e w1 ⟨rfl, rfl⟩))
      go_ret2
      exact ⟨rfl, rfl⟩
end Go.Proofs.YtmicdbplkfdfnaaGreatDoor
set_option linter.unusedVariables false
namespace Go.Proofs.YtmicdbplkfdfnaaGreatDoor
open Go.RowKit Go.Shelf Go.Maps

theorem zero3 (w : World) : (zeroValue 3).run Tryz.prog w = .ok (.int .i64 0) w := by kernel_rfl
/-- Block b is a map of at most n entries, which reads as f. -/
def IMap (w : World) (b n : Nat) (f : ByteArray → Option Nat) : Prop :=
  ∃ D : DataW Unit, w.ownsMap Tryz.prog 9 (plainElem Tryz.prog 3) b n D ∧ IsMap D ∧
    ∀ s : ByteArray, (f s = none → ∀ z, D.atKey (.string s.data.toList) z = z) ∧ (∀ i, f s = some i → i ≤ 1000000000 ∧ ∀ z, D.atKey (.string s.data.toList) z = .lit (.int .i64 (i : Int)))
theorem imap_made (w : World) : IMap (w.alloc (.map #[] 0)) w.heap.size 0 (fun _ => none) :=
  ⟨.map [], World.ownsMap_made w _ _ _, isMap_empty, fun s => ⟨fun _ z => rfl, fun i h => by cases h⟩⟩
theorem imap_look {w : World} {b n : Nat} {f : ByteArray → Option Nat} (h : IMap w b n f) (s : ByteArray) (hs : s.size ≤ maxLen) :
    (Instr.lookup 119 (.map (some b)) (.string s) true).run Tryz.prog w = .ok (.tuple #[.int .i64 (((f s).getD 0 : Nat) : Int), .bool (f s).isSome]) w := by
  obtain ⟨D, ⟨es, clock, hb, F, hn, rfl⟩, hD, hf⟩ := h
  have hkey := WideMaps.keyOf_string_mk (P := Tryz.prog) (k := 9) Tryz.underlying9 hs
  rcases fit_look true (string_keyed Tryz.underlying9) Tryz.underlying119 (zero3 w) hb F hkey with ⟨hr, _, hz⟩ | ⟨e0, y, _, _, hr, hy, hz, _⟩
  · cases h : f s with
    | none => rw [hr]; rfl
    | some i =>
      exfalso
      have h1 := ((hf s).2 i h).2 .nil
      rw [hz .nil] at h1
      cases h1
  · obtain ⟨c, hc, hy1, _⟩ := plainElem_int_inv Tryz.underlying3 hy
    cases h : f s with
    | none =>
      exfalso
      have h1 := (hf s).1 h .nil
      rw [hz .nil, hy1] at h1
      cases h1
    | some i =>
      have h1 := ((hf s).2 i h).2 .nil
      rw [hz .nil, hy1] at h1
      have e : c = (i : Int) := by simpa using h1
      rw [hr, hc, e]
      rfl
theorem imap_put {w : World} {b n : Nat} {f : ByteArray → Option Nat} (h : IMap w b n f) (s : ByteArray) (hs : s.size ≤ maxLen) (i : Nat) (hi : i ≤ 1000000000) (hn : n < maxLen) :
    ∃ w', (Instr.mapUpdate 119 (.map (some b)) (.string s) (.int .i64 (i : Int))).run Tryz.prog w = .ok () w' ∧ IMap w' b (n + 1) (fun t => if t = s then some i else f t) ∧ w.grownBy w' (some b) := by
  obtain ⟨D, hO, hD, hf⟩ := h
  have hkey := WideMaps.keyOf_string_mk (P := Tryz.prog) (k := 9) Tryz.underlying9 hs
  have hw : (Lit.int .i64 (i : Int)).wf = true := by
    simp [Lit.wf, IntKind.min, IntKind.max, IntKind.bits, IntKind.signed]
    omega
  obtain ⟨w', hr, hO', hg⟩ := hO.update (string_keyed Tryz.underlying9) Tryz.underlying119 hn hkey (plainElem_int Tryz.underlying3 hw)
  refine ⟨w', hr, ⟨_, hO', hD.put _ _, ?_⟩, hg⟩
  intro t
  dsimp only
  by_cases ht : t = s
  · subst ht
    rw [if_pos rfl]
    refine ⟨(fun h => by cases h), fun j hj => ?_⟩
    cases hj
    exact ⟨hi, fun z => atKey_put_same hD ((string_keyed Tryz.underlying9).key hkey) _ z⟩
  · rw [if_neg ht]
    have hne : (Lit.string t.data.toList) ≠ Lit.string s.data.toList := by
      intro e
      apply ht
      have e2 : t.data.toList = s.data.toList := by simpa using e
      obtain ⟨⟨a⟩⟩ := t
      obtain ⟨⟨c⟩⟩ := s
      simp at e2
      rw [e2]
    refine ⟨fun h z => ?_, fun j hj => ⟨((hf t).2 j hj).1, fun z => ?_⟩⟩
    · rw [atKey_put_other hne]; exact (hf t).1 h z
    · rw [atKey_put_other hne]; exact ((hf t).2 j hj).2 z
theorem IMap.kept {w w' : World} {b n : Nat} {f : ByteArray → Option Nat} {row : Option Nat} (h : IMap w b n f) (hg : w.grownBy w' row) (hne : some b ≠ row) : IMap w' b n f := by
  obtain ⟨D, hO, hD, hf⟩ := h
  exact ⟨D, hO.kept hg hne, hD, hf⟩
theorem IMap.lt {w : World} {b n : Nat} {f : ByteArray → Option Nat} (h : IMap w b n f) : b < w.heap.size := by
  obtain ⟨D, hO, _⟩ := h
  exact hO.lt
/-- find: where a name stands. -/
theorem find_any (S N M n c : Nat) (f : ByteArray → Option Nat) (s : ByteArray) (hs : s.size ≤ maxLen) (w : World)
    (h0 : w.cell? ⟨S, 0, none⟩ = some (.pointer (some ⟨N, 0, none⟩))) (h1 : w.cell? ⟨S, 1, none⟩ = some (.int .i64 (c : Int))) (hM : w.cell? ⟨N, 1, none⟩ = some (.map (some M))) (hm : IMap w M n f) :
    Calls Tryz.prog 51 #[.pointer (some ⟨S, 0, none⟩), .string s] w fun e w' => e = .returned (.tuple #[.int .i64 (((f s).getD 0 : Nat) : Int), .bool ((f s).isSome && decide ((f s).getD 0 < c))]) ∧ ∃ q, w' = w.drewN q := by
  have hl := imap_look hm s hs
  cases h : f s with
  | none =>
    rw [h] at hl
    have hl2 : (Instr.lookup 119 (.map (some M)) (.string s) true).run Tryz.prog w = .ok (.tuple #[.int .i64 0, .bool false]) w := hl
    clear hm hl
    go_enter Tryz.func51, Tryz.ntmps51
    go_wp2
    go_quiet (fail)
    go_wp2
    go_ret2
    exact ⟨rfl, _, rfl⟩
  | some i =>
    rw [h] at hl
    have hl2 : (Instr.lookup 119 (.map (some M)) (.string s) true).run Tryz.prog w = .ok (.tuple #[.int .i64 (i : Int), .bool true]) w := hl
    clear hm hl
    go_enter Tryz.func51, Tryz.ntmps51
    go_wp2
    go_quiet (fail)
    go_wp2
    go_ret2
    exact ⟨rfl, _, rfl⟩
end Go.Proofs.YtmicdbplkfdfnaaGreatDoor
set_option linter.unusedVariables false
namespace Go.Proofs.YtmicdbplkfdfnaaGreatDoor
open Go.RowKit Go.Shelf Go.Maps
theorem laidOut : laidOutB Tryz.prog = true := by kernel_rfl
theorem rowStep : (169 : TypeId) < Tryz.prog.types.size := of_decide_eq_true (by kernel_rfl)
theorem wideStep : (match Tryz.prog.underlying 169 with | some (.array _ _) | some (.struct _) => true | _ => false) = true := by kernel_rfl
theorem deepStep : Tryz.prog.keyTypeAt 3 169 = true := by kernel_rfl
set_option maxRecDepth 100000 in
theorem lawStep : WideMaps.KeyLaw Tryz.prog 169 := deep_law_laid laidOut (m := 3) (by omega) rowStep deepStep wideStep
theorem keyedStep : Keyed Tryz.prog 169 := Keyed.of_law lawStep
/-- A step, as a key. -/
def stepV (s : ByteArray) (a b c d : Bool) : Value := .agg #[.string s, .bool a, .bool b, .bool c, .bool d]
theorem tsize : Tryz.prog.types.size = 296 := by kernel_rfl
theorem cl9 : Tryz.prog.cellsOf 9 = 1 := by kernel_rfl
theorem cl4 : Tryz.prog.cellsOf 4 = 1 := by kernel_rfl
theorem cl71 : Tryz.prog.cellsOf 71 = 4 := by kernel_rfl
theorem cl164 : Tryz.prog.cellsOf 169 = 5 := by kernel_rfl
theorem lits9 (n : Nat) (s : ByteArray) (hs : s.size ≤ maxLen) : Tryz.prog.keyLits (n + 1) 9 [.string s] = some [.string s.data.toList] := by
  unfold Program.keyLits
  rw [Tryz.underlying9]
  simp [hs]
theorem lits4 (n : Nat) (a : Bool) : Tryz.prog.keyLits (n + 1) 4 [.bool a] = some [.bool a] := by
  unfold Program.keyLits
  rw [Tryz.underlying4]
theorem lits71 (n : Nat) (a b c d : Bool) : Tryz.prog.keyLits (n + 2) 71 [.bool a, .bool b, .bool c, .bool d] = some [.bool a, .bool b, .bool c, .bool d] := by
  unfold Program.keyLits
  rw [Tryz.underlying71]
  simp [cl71, cl4, lits4]
theorem lits164 (n : Nat) (s : ByteArray) (hs : s.size ≤ maxLen) (a b c d : Bool) : Tryz.prog.keyLits (n + 3) 169 [.string s, .bool a, .bool b, .bool c, .bool d] = some [.string s.data.toList, .bool a, .bool b, .bool c, .bool d] := by
  unfold Program.keyLits
  rw [Tryz.underlying169]
  simp [cl164, cl71, cl9, lits9 _ s hs, lits71]
theorem ktStep : Tryz.prog.keyType 169 = true := by kernel_rfl
theorem key_step (s : ByteArray) (hs : s.size ≤ maxLen) (a b c d : Bool) : keyOf Tryz.prog 169 (stepV s a b c d) = some (.string (keyBytes [.string s.data.toList, .bool a, .bool b, .bool c, .bool d])) := by
  unfold keyOf
  rw [Tryz.underlying169]
  have hf : (stepV s a b c d).formed Tryz.prog 169 = true := by simp [Value.formed, stepV, Tryz.underlying169, cl164]
  have hc : (stepV s a b c d).cells.toList = [.string s, .bool a, .bool b, .bool c, .bool d] := rfl
  simp only [ktStep, hf, hc, tsize, Bool.and_self, if_true]
  rw [show (296 + 1 : Nat) = 294 + 3 from rfl, lits164 294 s hs]
  rfl
abbrev Stp : Type := ByteArray × Bool × Bool × Bool × Bool
def stpV (p : Stp) : Value := stepV p.1 p.2.1 p.2.2.1 p.2.2.2.1 p.2.2.2.2
def stpL (p : Stp) : Lit := .string (keyBytes [.string p.1.data.toList, .bool p.2.1, .bool p.2.2.1, .bool p.2.2.2.1, .bool p.2.2.2.2])
theorem key_stp (p : Stp) (hp : p.1.size ≤ maxLen) : keyOf Tryz.prog 169 (stpV p) = some (stpL p) := key_step _ hp _ _ _ _
theorem stpV_inj {p q : Stp} (h : stpV p = stpV q) : p = q := by
  obtain ⟨a, b, c, d, e⟩ := p
  obtain ⟨a', b', c', d', e'⟩ := q
  simp [stpV, stepV] at h
  obtain ⟨rfl, rfl, rfl, rfl, rfl⟩ := h
  rfl
theorem stpL_ne {p q : Stp} (hp : p.1.size ≤ maxLen) (hq : q.1.size ≤ maxLen) (h : p ≠ q) : stpL p ≠ stpL q := by
  intro e
  have h1 := key_stp p hp
  rw [e] at h1
  exact h (stpV_inj (keyedStep.inj h1 (key_stp q hq)))
def ptrV (i : Nat) : Value := .pointer (some ⟨i, 0, none⟩)
/-- How a pointer to the beginning of a block reads. -/
def ptrElem (v : Value) : Option (DataW Unit × List MemPlace) :=
  match v with
  | .pointer (some ⟨i, 0, none⟩) => some (.lit (.int .u64 (i : Int)), [])
  | _ => none
theorem ptrElem_inv {v : Value} {y : DataW Unit × List MemPlace} (h : ptrElem v = some y) : ∃ i, v = ptrV i ∧ y = (.lit (.int .u64 (i : Int)), []) := by
  unfold ptrElem at h
  split at h
  · rename_i i
    exact ⟨i, rfl, (Option.some.inj h).symm⟩
  · cases h
theorem zero87 (w : World) : (zeroValue 87).run Tryz.prog w = .ok (.pointer none) w := by kernel_rfl
/-- Block b is a map of at most n entries, which reads as f. -/
def PMap (w : World) (b n : Nat) (f : Stp → Option Nat) : Prop :=
  ∃ D : DataW Unit, w.ownsMap Tryz.prog 169 ptrElem b n D ∧ IsMap D ∧
    ∀ p : Stp, p.1.size ≤ maxLen → (f p = none → ∀ z, D.atKey (stpL p) z = z) ∧ (∀ i, f p = some i → ∀ z, D.atKey (stpL p) z = .lit (.int .u64 (i : Int)))
theorem pmap_made (w : World) : PMap (w.alloc (.map #[] 0)) w.heap.size 0 (fun _ => none) :=
  ⟨.map [], World.ownsMap_made w _ _ _, isMap_empty, fun s _ => ⟨fun _ z => rfl, fun i h => by cases h⟩⟩
def ptrO : Option Nat → Value
  | none => .pointer none
  | some i => ptrV i
theorem pmap_look {w : World} {b n : Nat} {f : Stp → Option Nat} (h : PMap w b n f) (p : Stp) (hp : p.1.size ≤ maxLen) :
    (Instr.lookup 116 (.map (some b)) (stpV p) false).run Tryz.prog w = .ok (ptrO (f p)) w := by
  obtain ⟨D, ⟨es, clock, hb, F, hn, rfl⟩, hD, hf⟩ := h
  have hkey := key_stp p hp
  rcases fit_look false keyedStep Tryz.underlying116 (zero87 w) hb F hkey with ⟨hr, _, hz⟩ | ⟨e0, y, _, _, hr, hy, hz, _⟩
  · cases h : f p with
    | none => rw [hr]; rfl
    | some i =>
      exfalso
      have h1 := (hf p hp).2 i h .nil
      rw [hz .nil] at h1
      cases h1
  · obtain ⟨c, hc, hy1⟩ := ptrElem_inv hy
    cases h : f p with
    | none =>
      exfalso
      have h1 := (hf p hp).1 h .nil
      rw [hz .nil, hy1] at h1
      cases h1
    | some i =>
      have h1 := (hf p hp).2 i h .nil
      rw [hz .nil, hy1] at h1
      have e : c = i := by
        have h2 : (c : Int) = (i : Int) := by simpa using h1
        omega
      rw [hr, hc, e]
      rfl
theorem pmap_put {w : World} {b n : Nat} {f : Stp → Option Nat} (h : PMap w b n f) (p : Stp) (hp : p.1.size ≤ maxLen) (i : Nat) (hn : n < maxLen) :
    ∃ w', (Instr.mapUpdate 116 (.map (some b)) (stpV p) (ptrV i)).run Tryz.prog w = .ok () w' ∧ PMap w' b (n + 1) (fun t => if t = p then some i else f t) ∧ w.grownBy w' (some b) := by
  obtain ⟨D, hO, hD, hf⟩ := h
  have hkey := key_stp p hp
  obtain ⟨w', hr, hO', hg⟩ := hO.update keyedStep Tryz.underlying116 hn hkey (val := ptrV i) (d := .lit (.int .u64 (i : Int))) (ps := []) rfl
  refine ⟨w', hr, ⟨_, hO', hD.put _ _, ?_⟩, hg⟩
  intro t hts
  dsimp only
  by_cases ht : t = p
  · subst ht
    rw [if_pos rfl]
    refine ⟨(fun h => by cases h), fun j hj => ?_⟩
    cases hj
    exact fun z => atKey_put_same hD (keyedStep.key hkey) _ z
  · rw [if_neg ht]
    have hne := stpL_ne hts hp ht
    refine ⟨fun h z => ?_, fun j hj z => ?_⟩
    · rw [atKey_put_other hne]; exact (hf t hts).1 h z
    · rw [atKey_put_other hne]; exact (hf t hts).2 j hj z
theorem PMap.kept {w w' : World} {b n : Nat} {f : Stp → Option Nat} {row : Option Nat} (h : PMap w b n f) (hg : w.grownBy w' row) (hne : some b ≠ row) : PMap w' b n f := by
  obtain ⟨D, hO, hD, hf⟩ := h
  exact ⟨D, hO.kept hg hne, hD, hf⟩
theorem PMap.lt {w : World} {b n : Nat} {f : Stp → Option Nat} (h : PMap w b n f) : b < w.heap.size := by
  obtain ⟨D, hO, _⟩ := h
  exact hO.lt
end Go.Proofs.YtmicdbplkfdfnaaGreatDoor
set_option linter.unusedVariables false
namespace Go.Proofs.YtmicdbplkfdfnaaGreatDoor
open Go.RowKit

structure Kx (S : List Nat) (w w' : World) : Prop where
  os : w'.os = w.os
  tape : w'.tape = w.tape
  output : w'.output = w.output
  size : w.heap.size ≤ w'.heap.size
  block : ∀ k, k < w.heap.size → k ∉ S → w'.heap[k]? = w.heap[k]?
theorem Kx.refl (S : List Nat) (w : World) : Kx S w w := ⟨rfl, rfl, rfl, Nat.le_refl _, fun _ _ _ => rfl⟩
theorem Kx.trans {S T : List Nat} {a b c : World} (h : Kx S a b) (k : Kx T b c) (hT : ∀ i ∈ T, i ∈ S ∨ a.heap.size ≤ i) : Kx S a c :=
  ⟨k.os.trans h.os, k.tape.trans h.tape, k.output.trans h.output, Nat.le_trans h.size k.size, fun i hi hn =>
    (k.block i (Nat.lt_of_lt_of_le hi h.size) (fun hm => by rcases hT i hm with h1 | h1; (· exact hn h1); (· omega))).trans (h.block i hi hn)⟩
theorem Kx.same {S : List Nat} {a b c : World} (h : Kx S a b) (k : Kx S b c) : Kx S a c := h.trans k (fun i hi => .inl hi)
theorem Kx.mono {S T : List Nat} {a b : World} (h : Kx T a b) (hT : ∀ i ∈ T, i ∈ S ∨ a.heap.size ≤ i) : Kx S a b := (Kx.refl S a).trans h hT
theorem Kx.alloc (S : List Nat) (w : World) (o : Obj) : Kx S w (w.alloc o) := ⟨rfl, rfl, rfl, by simp, fun k hk _ => Below.heap_alloc _ _ _ hk⟩
theorem Kx.setCell {S : List Nat} (w : World) {p : Addr} (hp : p.block ∈ S) (u : Value) : Kx S w (w.setCell p u) :=
  ⟨rfl, rfl, rfl, by simp [World.setCell], fun k hk hn => Below.heap_setCell _ _ _ _ (fun e => hn (e ▸ hp))⟩
theorem Kx.drew (S : List Nat) (w : World) : Kx S w w.drew := ⟨rfl, rfl, rfl, Nat.le_refl _, fun _ _ _ => rfl⟩
theorem Kx.drewN (S : List Nat) (w : World) (n : Nat) : Kx S w (w.drewN n) := ⟨rfl, rfl, rfl, Nat.le_refl _, fun _ _ _ => rfl⟩
theorem Kx.drw {S : List Nat} {a w : World} (h : Kx S a w) (n : Nat) : Kx S a (w.drewN n) := h.same (Kx.drewN _ _ _)
theorem Kx.drw1 {S : List Nat} {a w : World} (h : Kx S a w) : Kx S a w.drew := h.same (Kx.drew _ _)
theorem Kx.alc {S : List Nat} {a w : World} (h : Kx S a w) (o : Obj) : Kx S a (w.alloc o) := h.same (Kx.alloc _ _ _)
theorem Kx.set {S : List Nat} {a w : World} (h : Kx S a w) {p : Addr} (hp : p.block ∈ S) (u : Value) : Kx S a (w.setCell p u) := h.same (Kx.setCell _ hp u)
theorem Kx.grown {w w' : World} {row : Option Nat} (hg : w.grownBy w' row) : Kx row.toList w w' :=
  ⟨hg.os, hg.tape, hg.output, hg.size, fun k hk hn => hg.block k hk (fun e => hn (by rw [← e]; simp))⟩
theorem Kx.below {S : List Nat} {B : Nat} {w w' : World} (h : Kx S w w') (hB : B ≤ w.heap.size) (hS : ∀ i ∈ S, B ≤ i) : Below B w w' :=
  ⟨h.os, h.tape, h.output, h.size, fun k hk => h.block k (by omega) (fun hm => by have := hS k hm; omega)⟩
theorem Kx.ofBelow {w w' : World} (h : Below w.heap.size w w') (S : List Nat) : Kx S w w' := ⟨h.os, h.tape, h.output, h.size, fun k hk _ => h.block k hk⟩
theorem Kx.get {S : List Nat} {w w' : World} (h : Kx S w w') {k : Nat} {o : Obj} (hk : w.heap[k]? = some o) (hn : k ∉ S) : w'.heap[k]? = some o :=
  (h.block k (Array.getElem?_eq_some_iff.1 hk).1 hn).trans hk
theorem lt_get {w : World} {k : Nat} {o : Obj} (hk : w.heap[k]? = some o) : k < w.heap.size := (Array.getElem?_eq_some_iff.1 hk).1
theorem Kx.owns {S : List Nat} {w w' : World} (h : Kx S w w') {B : Nat} {e : TypeId} {sz : Nat} {v : Value} {n : Nat} {xs : List Value} (ho : w.ownsRow B e sz v n xs) (hn : ∀ g, v.ownBlock = some g → g ∉ S) : w'.ownsRow B e sz v n xs := by
  obtain ⟨h1, h2⟩ := ho
  refine ⟨h1, ?_⟩
  rcases h2 with h2 | ⟨g, cap, cur, rfl, hb, hg, rest⟩
  · exact .inl h2
  · exact .inr ⟨g, cap, cur, rfl, hb, h.get hg (hn g rfl), rest⟩
theorem heap_put {w : World} {g : Nat} {cur : Array Value} {t : TypeId} {fr : Nat × Nat} (h : w.heap[g]? = some (Obj.cells cur t fr)) (j : Nat) (v : Value) : (w.setCell ⟨g, j, none⟩ v).heap[g]? = some (Obj.cells (cur.setIfInBounds j v) t fr) := by
  simp only [World.setCell, Array.getElem?_modify, if_true, h, Option.map_some]
  rfl
theorem heap_new (w : World) (o : Obj) : (w.alloc o).heap[w.heap.size]? = some o := heap_alloc_new w o
theorem fr_all {w : World} {g : Nat} {cur : Array Value} {t : TypeId} (h : w.heap[g]? = some (Obj.cells cur t (0, 0))) : ∀ j, w.frozen? ⟨g, j, none⟩ = false := by
  intro j
  simp [World.frozen?, h]
theorem cell_at {w : World} {g : Nat} {cur : Array Value} {t : TypeId} {fr : Nat × Nat} (h : w.heap[g]? = some (Obj.cells cur t fr)) (j : Nat) {v : Value} (hv : cur[j]? = some v) : w.cell? ⟨g, j, none⟩ = some v := by
  rw [cell_of_row w g j cur t fr h]
  exact hv
/-- A row that is owned lies in a block of its elements' kind. -/
theorem owns_ne {w : World} {B : Nat} {e : TypeId} {sz : Nat} {v : Value} {n : Nat} {xs : List Value} (ho : w.ownsRow B e sz v n xs) {k : Nat} {cur : Array Value} {t : TypeId} {fr : Nat × Nat} (hk : w.heap[k]? = some (Obj.cells cur t fr)) (ht : t ≠ e) : ∀ g, v.ownBlock = some g → g ≠ k := by
  intro g hg he
  subst he
  rcases ho.2 with ⟨rfl, _⟩ | ⟨g', cap, cur', rfl, _, hgg, _⟩
  · simp [Value.ownBlock] at hg
  · simp [Value.ownBlock] at hg
    subst hg
    rw [hk] at hgg
    simp at hgg
    exact ht hgg.2.1
end Go.Proofs.YtmicdbplkfdfnaaGreatDoor
