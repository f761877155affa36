/- The keys are shut: Define of one. -/
import Derived.Test.YtmicdbplkfdfnaaGreatDoorCSf1x
import Derived.Test.YtmicdbplkfdfnaaGreatDoorCTb1x
import Derived.Test.YtmicdbplkfdfnaaGreatDoorCHq2x
import Derived.Test.YtmicdbplkfdfnaaGreatDoorCTc2
import Derived.Test.YtmicdbplkfdfnaaGreatDoorCTd1x
import Derived.Test.YtmicdbplkfdfnaaGreatDoorCHo3x
set_option linter.unusedVariables false
namespace Go.Proofs.YtmicdbplkfdfnaaGreatDoor
open Go.RowKit Go.Shelf Go.Maps

theorem add00 (W : World) : (binOp .add 30 (.float .f64 0) (.float .f64 0)).run Tryz.prog W = .ok (.float .f64 0) W := by
  have := add_wN (a := 0) (b := 0) (by omega)
  rw [wN_zero] at this
  exact run_float_arith W .add 30 .f64 _ _ _ this
/-- What stands behind a key that was shut. -/
def Shut2 (w : World) (n0 O H b : Nat) (arr : Bool) (L : List ByteArray) (P : List Pr) (f : Nat → Option Pr) (F : Fp) (w' : World) : Prop := ∃ F', FSt w' n0 O H b arr false L P f F' ∧ Nxt w O H b F w' F'
theorem Shut2.kx {w : World} {n0 O H b : Nat} {arr : Bool} {L : List ByteArray} {P : List Pr} {f : Nat → Option Pr} {F : Fp} {w' w'' : World} (h : Shut2 w n0 O H b arr L P f F w') (hk : Kx [] w' w'') : Shut2 w n0 O H b arr L P f F w'' := by
  obtain ⟨F', h1, h2⟩ := h
  exact ⟨F', h1.kept0 hk, ⟨h2.1.trans hk (fun i hi => by cases hi), h2.2⟩⟩
theorem Shut2.from {w W : World} {n0 O H b : Nat} {arr : Bool} {L : List ByteArray} {P : List Pr} {f : Nat → Option Pr} {F : Fp} {w' : World} (hW : Kx [] w W) (h : Shut2 W n0 O H b arr L P f F w') : Shut2 w n0 O H b arr L P f F w' := by
  obtain ⟨F', h1, h2⟩ := h
  exact ⟨F', h1, Nxt.from (n0 := n0) hW h2⟩
theorem with_shut (q0 q1 q2 : Bool) (x : Nat) (w : World) :
    Calls Tryz.prog 69 #[.agg #[.bool q0, .bool q1, .bool q2, .bool false, .int .i64 3, .float .f64 x, .string ⟨#[]⟩, .pointer none, .pointer none, .pointer none], .agg #[.bool false, .bool false, .bool false, .bool false, .int .i64 0, .float .f64 0, .string ⟨#[]⟩, .pointer none, .pointer none, .pointer none, .bool false, .bool false, .bool false, .bool true, .bool false, .bool true]] w fun e w' =>
      e = .returned (.agg #[.bool false, .bool q1, .bool false, .bool false, .int .i64 3, .float .f64 x, .string ⟨#[]⟩, .pointer none, .pointer none, .pointer none]) ∧ Kx [] w w' :=
  with_told q0 q1 q2 false false false false true false true 3 0 x 0 ⟨#[]⟩ ⟨#[]⟩ none none w
theorem set_self {α : Type} : ∀ (l : List α) (i : Nat) (a : α), l[i]? = some a → l.set i a = l
  | [], i, a, h => by simp at h
  | x :: l, 0, a, h => by simp at h; subst h; rfl
  | x :: l, i + 1, a, h => by
    rw [List.set_cons_succ, set_self l i a (by simpa using h)]
theorem FSt.shutName {w : World} {n0 O H b : Nat} {arr : Bool} {L : List ByteArray} {P : List Pr} {f : Nat → Option Pr} {F : Fp} (h : FSt w n0 O H b arr false L P f F) (us : List Nat) (hx : ixOf us < 0) (hsz : (txt us).size ≤ 100000000) (hlen : arr = true → txt us ≠ lenS ∧ 0 < P.length) (i : Nat) (hp : pf L (txt us) = some i) (x : Nat) (hPi : P[i]? = some (false, true, true, x)) :
    Calls Tryz.prog 41 #[.pointer (some ⟨b, 0, none⟩), .agg #[.string (keyN us), .int .u32 (keyP us), .bool (keyI us)], .agg #[.bool false, .bool false, .bool false, .bool false, .int .i64 0, .float .f64 0, .string ⟨#[]⟩, .pointer none, .pointer none, .pointer none, .bool false, .bool false, .bool false, .bool true, .bool false, .bool true]] w fun e w' => e = .returned .nilIface ∧ Shut2 w n0 O H b arr L (P.set i (false, true, false, x)) f F w' := by
  have hmx : (txt us).size ≤ maxLen := by unfold maxLen; omega
  have hb0 : w.cell? ⟨b, 0, none⟩ = some (.string (clsS arr)) := cell_at h.obj 0 rfl
  have hT : ∀ i ∈ F.blocks O H b, i < w.heap.size := fun i hi => (h.lt i hi).2
  have fin : ∀ (e : Ending) (w' : World), (e = .returned .nilIface ∧ ∃ W q, Shut2 w n0 O H b arr L (P.set i (false, true, false, x)) f F W ∧ w' = W.drewN q) → e = .returned .nilIface ∧ Shut2 w n0 O H b arr L (P.set i (false, true, false, x)) f F w' := by
    rintro e w' ⟨h1, W, q, h2, rfl⟩
    exact ⟨h1, h2.kx (Kx.drewN _ _ _)⟩
  have c25 := h.own us hmx
  obtain ⟨k1, k2, k3⟩ := keyN_name hx
  rw [k1, k2, k3] at c25 ⊢
  rw [look_name hx, hp] at c25
  simp only [Option.bind_some, hPi] at c25
  have cS : ∀ W, Kx [] w W → Calls Tryz.prog 59 #[.pointer (some ⟨b, 0, none⟩), .agg #[.string (txt us), .int .u32 0, .bool false], .agg #[.bool false, .bool true, .bool false, .bool false, .int .i64 3, .float .f64 x, .string ⟨#[]⟩, .pointer none, .pointer none, .pointer none]] W fun e w' => (∃ u, e = .returned u) ∧ Kx (F.blocks O H b) W w' ∧ Shut2 w n0 O H b arr L (P.set i (false, true, false, x)) f F w' := fun W hW =>
    (h.setShut (txt us) hmx i hp x hPi W hW).mono fun e w' h2 => by
      obtain ⟨g1, g2, F', g3, g4, g5⟩ := h2
      exact ⟨g1, g2, F', g3, g4⟩
  have cR := fun W (hW : Kx [] w W) => refuses_not (.bool false) (.bool true) (.bool false) (.int .i64 3) (.float .f64 x) (.string ⟨#[]⟩) (.pointer none) (.pointer none) (.pointer none) (.bool false) (.bool false) (.bool false) (.bool false) (.int .i64 0) (.float .f64 0) (.string ⟨#[]⟩) (.pointer none) (.pointer none) (.pointer none) (.bool false) (.bool false) (.bool false) (.bool true) (.bool false) (.bool true) W
  cases arr with
  | false =>
    exact (define_hasN b (clsS false) (txt us) 0 false false false false true false true 0 0 ⟨#[]⟩ none false true true false true false 3 3 x x ⟨#[]⟩ ⟨#[]⟩ none none (F.blocks O H b) (Shut2 w n0 O H b false L (P.set i (false, true, false, x)) f F) w hb0 (clsS_is false) hT c25 cR
      (fun W hW => with_shut false true true x W) cS
      (fun W hR => by obtain ⟨F', g1, _⟩ := hR; exact length_no b (clsS false) W (cell_at g1.obj 0 rfl) (clsS_is false))).mono fin
  | true =>
    exact (define_hasNA b (clsS true) (txt us) 0 false false false false true false true 0 0 ⟨#[]⟩ none false true true false true false 3 3 x x ⟨#[]⟩ ⟨#[]⟩ none none (F.blocks O H b) (Shut2 w n0 O H b true L (P.set i (false, true, false, x)) f F) w hb0 (clsS_is true) (name_ne (hlen rfl).1) hT c25 cR
      (fun W hW => with_shut false true true x W) cS
      (fun W hR => by obtain ⟨F', g1, _⟩ := hR; exact g1.lenAt (by rw [List.length_set]; exact (hlen rfl).2))).mono fin
theorem FSt.shutPlace {w : World} {n0 O H b : Nat} {arr : Bool} {L : List ByteArray} {P : List Pr} {f : Nat → Option Pr} {F : Fp} (h : FSt w n0 O H b arr false L P f F) (us : List Nat) (hsz : (txt us).size ≤ 100000000) (k : Nat) (hk : ixOf us = (k : Int)) (hkb : k ≤ 4294967294) (hlen : arr = true → ∃ q0 n, P[0]? = some (q0, false, false, wN n) ∧ k + 1 ≤ n ∧ n ≤ 4294967295) (x : Nat) (hf : f k = some (false, true, true, x)) (hm : F.m + 1 ≤ 10000) :
    Calls Tryz.prog 41 #[.pointer (some ⟨b, 0, none⟩), .agg #[.string (keyN us), .int .u32 (keyP us), .bool (keyI us)], .agg #[.bool false, .bool false, .bool false, .bool false, .int .i64 0, .float .f64 0, .string ⟨#[]⟩, .pointer none, .pointer none, .pointer none, .bool false, .bool false, .bool false, .bool true, .bool false, .bool true]] w fun e w' => e = .returned .nilIface ∧ Shut2 w n0 O H b arr L P (upd f k (false, true, false, x)) F w' := by
  have hmx : (txt us).size ≤ maxLen := by unfold maxLen; omega
  have hb0 : w.cell? ⟨b, 0, none⟩ = some (.string (clsS arr)) := cell_at h.obj 0 rfl
  have hT : ∀ i ∈ F.blocks O H b, i < w.heap.size := fun i hi => (h.lt i hi).2
  have c25 := h.own us hmx
  obtain ⟨k1, k2, k3⟩ := keyN_place hk
  rw [k1, k2, k3] at c25 ⊢
  rw [look_place hk, hf] at c25
  have cU : ∀ W, Kx [] w W → Calls Tryz.prog 45 #[.pointer (some ⟨b, 0, none⟩)] W fun e w' => e = .returned (.int .i64 0) ∧ ∃ q, w' = W.drewN q := fun W hW => (units_zero b W (cell_at (hW.get h.obj (by simp)) 3 rfl)).mono fun e w' h => ⟨h.1, 0, h.2⟩
  have cR := fun W (hW : Kx [] w W) => refuses_not (.bool false) (.bool true) (.bool false) (.int .i64 3) (.float .f64 x) (.string ⟨#[]⟩) (.pointer none) (.pointer none) (.pointer none) (.bool false) (.bool false) (.bool false) (.bool false) (.int .i64 0) (.float .f64 0) (.string ⟨#[]⟩) (.pointer none) (.pointer none) (.pointer none) (.bool false) (.bool false) (.bool false) (.bool true) (.bool false) (.bool true) W
  let R : World → Prop := fun W => ∃ F', FSt W n0 O H b arr false L P (upd f k (false, true, false, x)) F' ∧ Nxt w O H b F W F' ∧ F'.al = F.al ∧ F'.nv = F.nv
  have cS : ∀ W, Kx [] w W → Calls Tryz.prog 59 #[.pointer (some ⟨b, 0, none⟩), .agg #[.string ⟨#[]⟩, .int .u32 (k : Int), .bool true], .agg #[.bool false, .bool true, .bool false, .bool false, .int .i64 3, .float .f64 x, .string ⟨#[]⟩, .pointer none, .pointer none, .pointer none]] W fun e w' => (∃ u, e = .returned u) ∧ Kx (F.blocks O H b) W w' ∧ R w' := fun W hW => h.setPlace k (by omega) true false x hm W hW
  cases arr with
  | false =>
    refine (define_hasP b (clsS false) ⟨#[]⟩ (k : Int) false false false false true false true 0 0 ⟨#[]⟩ none false true true false true false 3 3 x x ⟨#[]⟩ ⟨#[]⟩ none none (F.blocks O H b) R w hb0 (clsS_is false) hT c25 cR cU
      (fun W hW => with_shut false true true x W) cS
      (fun W hR => by obtain ⟨F', g1, _⟩ := hR; exact length_no b (clsS false) W (cell_at g1.obj 0 rfl) (clsS_is false)) (by omega) (by omega)).mono ?_
    rintro e w' ⟨h1, W, q, ⟨F', g1, g2, g3, g4⟩, rfl⟩
    exact ⟨h1, Shut2.kx ⟨F', g1, g2⟩ (Kx.drewN _ _ _)⟩
  | true =>
    obtain ⟨q0, n, i3, i4, i2⟩ := hlen rfl
    have hpos : 0 < P.length := (List.getElem?_eq_some_iff.1 i3).1
    obtain ⟨g, cap, e⟩ := ownsRow_pos hpos h.prs
    have hl := h.len
    have hbl := h.bL
    have cL : ∀ W, R W → Calls Tryz.prog 70 #[.pointer (some ⟨b, 0, none⟩)] W fun e w' => e = .returned (.pointer (some ⟨g, 4, none⟩)) ∧ w' = W := fun W hR => by
      obtain ⟨F', g1, g2, g3, g4⟩ := hR
      exact length_arr b g P.length cap W (cell_at g1.obj 0 rfl) (by rw [cell_at g1.obj 6 rfl]; exact congrArg some (g4.trans e)) hpos (by omega)
    have hxc : ∀ W, R W → W.cell? ⟨g, 5, none⟩ = some (.float .f64 (wN n)) ∧ W.frozen? ⟨g, 5, none⟩ = false := fun W hR => by
      obtain ⟨F', g1, g2, g3, g4⟩ := hR
      have hp1 := g1.prs
      rw [g4, e] at hp1
      obtain ⟨cur, hG, _⟩ := prs_cur hp1 i3 hpos
      exact ⟨by have := prs_cells hp1 i3 5 (by omega) _ rfl; simpa using this, fr_all hG 5⟩
    refine (define_hasPA b (clsS true) ⟨#[]⟩ (k : Int) false false false false true false true 0 0 ⟨#[]⟩ none false true true false true false 3 3 x x ⟨#[]⟩ ⟨#[]⟩ none none (F.blocks O H b) R g (wN n) (wN k) (wN (k + 1)) (wN (max n (k + 1))) w hb0 (clsS_is true) (by decide +kernel) hT c25 cR cU
      (fun W hW => with_shut false true true x W) cS cL (by omega) (by omega) hxc (conv65 k) (plus1 k (by omega)) (max_wN n (k + 1) (by omega) (by omega))).mono ?_
    rintro e2 w' ⟨h1, W, q, ⟨F', g1, g2, g3, g4⟩, rfl⟩
    have g1' := g1.kept0 (Kx.drewN [] W q)
    obtain ⟨s1, s2⟩ := g1'.lenNum (g4.trans e) q0 false false (wN n) (wN (max n (k + 1))) i3
    rw [Nat.max_eq_left i4] at s1 s2 ⊢
    rw [set_self P 0 _ i3] at s1
    exact ⟨h1, F', s1, (g2.1.drw q).trans s2 (fun i hi => g2.2.1 i hi), g2.2⟩
end Go.Proofs.YtmicdbplkfdfnaaGreatDoor
set_option linter.unusedVariables false
namespace Go.Proofs.YtmicdbplkfdfnaaGreatDoor
open Go.RowKit Go.Shelf Go.Maps
attribute [local go_sem] run_store_flt

set_option maxRecDepth 100000 in
set_option maxHeartbeats 2000000 in
theorem define_faceE (O H b : Nat) (l : List Nat) (r : Int) (s nm : ByteArray) (pl : Int) (isP : Bool) (d0 d1 d2 d3 d4 d5 d12 d13 d14 : Bool) (k rf g st : Int) (x : Nat) (tx : ByteArray) (t0 t1 t2 t3 : Bool) (t4 : Int) (t5 : Nat) (t6 : ByteArray) (t7 t8 t9 : Option Addr) (t10 t11 t12 t13 t14 t15 : Bool) (E : Value → Prop) (R : World → Prop) (w : World)
    (hO : w.cell? ⟨O, 0, none⟩ = some (.pointer (some ⟨H, 0, none⟩))) (hH : Objs w H l) (hr1 : 1 ≤ r) (hr : l[(r - 1).toNat]? = some b)
    (cT : ∀ W, Kx [] w W → Calls Tryz.prog 40 #[.pointer (some ⟨O, 0, none⟩), .agg #[.bool d0, .bool d1, .bool d2, .bool d3, .bool d4, .bool d5, .int .i64 k, .float .f64 x, .string tx, .int .i64 rf, .int .i64 g, .int .i64 st, .bool d12, .bool d13, .bool d14]] W fun e w' => e = .returned (.tuple #[.agg #[.bool t0, .bool t1, .bool t2, .bool t3, .int .i64 t4, .float .f64 t5, .string t6, .pointer t7, .pointer t8, .pointer t9, .bool t10, .bool t11, .bool t12, .bool t13, .bool t14, .bool t15], .bool true]) ∧ Kx [] W w')
    (cK : ∀ W, Kx [] w W → Calls Tryz.prog 26 #[.string s] W fun e w' => e = .returned (.agg #[.string nm, .int .u32 pl, .bool isP]) ∧ Kx [] W w')
    (cD : ∀ W, Kx [] w W → Calls Tryz.prog 41 #[.pointer (some ⟨b, 0, none⟩), .agg #[.string nm, .int .u32 pl, .bool isP], .agg #[.bool t0, .bool t1, .bool t2, .bool t3, .int .i64 t4, .float .f64 t5, .string t6, .pointer t7, .pointer t8, .pointer t9, .bool t10, .bool t11, .bool t12, .bool t13, .bool t14, .bool t15]] W fun e w' => ∃ er, e = .returned er ∧ E er ∧ R w') :
    Calls Tryz.prog 20 #[.pointer (some ⟨O, 0, none⟩), .int .i64 r, .string s, .agg #[.bool d0, .bool d1, .bool d2, .bool d3, .bool d4, .bool d5, .int .i64 k, .float .f64 x, .string tx, .int .i64 rf, .int .i64 g, .int .i64 st, .bool d12, .bool d13, .bool d14]] w fun e w' => ∃ er, e = .returned er ∧ E er ∧ R w' := by
  obtain ⟨W0, hW0⟩ : ∃ W0, W0 = w.alloc (Obj.cells #[.bool d0, .bool d1, .bool d2, .bool d3, .bool d4, .bool d5, .int .i64 k, .float .f64 x, .string tx, .int .i64 rf, .int .i64 g, .int .i64 st, .bool d12, .bool d13, .bool d14] 34) := ⟨_, rfl⟩
  have hk0 : Kx [] w W0 := by rw [hW0]; exact Kx.alloc _ _ _
  have hD0 : W0.heap[w.heap.size]? = some (Obj.cells #[.bool d0, .bool d1, .bool d2, .bool d3, .bool d4, .bool d5, .int .i64 k, .float .f64 x, .string tx, .int .i64 rf, .int .i64 g, .int .i64 st, .bool d12, .bool d13, .bool d14] 34 (0, 0)) := by rw [hW0]; exact heap_alloc_new _ _
  have hO0 : W0.cell? ⟨O, 0, none⟩ = some (.pointer (some ⟨H, 0, none⟩)) := hk0.cell hO (by simp)
  have c1 := numbered_any H l r W0 (hH.kept hk0)
  rw [objP_hit hr1 hr] at c1
  have CT := (show Hid _ from cT)
  have CK := (show Hid _ from cK)
  have CD := (show Hid _ from cD)
  have HK0 := (show Hid _ from hk0)
  have HD0 := (show Hid _ from hD0)
  clear cT cK cD hk0 hD0 hO hH hr1 hr
  rw [hW0] at hO0
  go_enter Tryz.func20, Tryz.ntmps20
  go_wp2_with (first | (go_at_call 21; fail))
  rw [← hW0]
  clear hW0 hO0
  refine c1.mono ?_
  rintro e w1 ⟨rfl, rfl⟩
  have y0 := cell_at HD0.out 0 rfl
  have y1 := cell_at HD0.out 1 rfl
  have y2 := cell_at HD0.out 2 rfl
  have y3 := cell_at HD0.out 3 rfl
  have y4 := cell_at HD0.out 4 rfl
  have y5 := cell_at HD0.out 5 rfl
  have y6 := cell_at HD0.out 6 rfl
  have y7 := cell_at HD0.out 7 rfl
  have y8 := cell_at HD0.out 8 rfl
  have y9 := cell_at HD0.out 9 rfl
  have y10 := cell_at HD0.out 10 rfl
  have y11 := cell_at HD0.out 11 rfl
  have y12 := cell_at HD0.out 12 rfl
  have y13 := cell_at HD0.out 13 rfl
  have y14 := cell_at HD0.out 14 rfl
  go_wp2_with (first | (go_at_call 40; fail))
  refine (CT.out w1 HK0.out).mono ?_
  rintro e w2 ⟨rfl, hk2⟩
  clear y0 y1 y2 y3 y4 y5 y6 y7 y8 y9 y10 y11 y12 y13 y14 c1 CT HD0
  obtain ⟨W2, hW2⟩ : ∃ W2, W2 = w2.alloc (Obj.cells #[.bool t0, .bool t1, .bool t2, .bool t3, .int .i64 t4, .float .f64 t5, .string t6, .pointer t7, .pointer t8, .pointer t9, .bool t10, .bool t11, .bool t12, .bool t13, .bool t14, .bool t15] 99) := ⟨_, rfl⟩
  have hk3 : Kx [] w W2 := by rw [hW2]; exact (HK0.out.same hk2).alc _
  have HT : Hid (W2.heap[w2.heap.size]? = some (Obj.cells #[.bool t0, .bool t1, .bool t2, .bool t3, .int .i64 t4, .float .f64 t5, .string t6, .pointer t7, .pointer t8, .pointer t9, .bool t10, .bool t11, .bool t12, .bool t13, .bool t14, .bool t15] 99 (0, 0))) := by rw [hW2]; exact heap_alloc_new _ _
  have HK3 := (show Hid _ from hk3)
  clear hk2 hk3 HK0
  go_wp2
  rw [← hW2]
  clear hW2
  have z0 := cell_at HT.out 0 rfl
  have z1 := cell_at HT.out 1 rfl
  have z2 := cell_at HT.out 2 rfl
  have z3 := cell_at HT.out 3 rfl
  have z4 := cell_at HT.out 4 rfl
  have z5 := cell_at HT.out 5 rfl
  have z6 := cell_at HT.out 6 rfl
  have z7 := cell_at HT.out 7 rfl
  have z8 := cell_at HT.out 8 rfl
  have z9 := cell_at HT.out 9 rfl
  have z10 := cell_at HT.out 10 rfl
  have z11 := cell_at HT.out 11 rfl
  have z12 := cell_at HT.out 12 rfl
  have z13 := cell_at HT.out 13 rfl
  have z14 := cell_at HT.out 14 rfl
  have z15 := cell_at HT.out 15 rfl
  go_region_law (first | (go_simp; go_at_call 26; refine (CK.out _ HK3.out.drw1).mono ?_; rintro e w4 ⟨rfl, hk4⟩; have HT4 : Hid (w4.heap[w2.heap.size]? = some (Obj.cells #[.bool t0, .bool t1, .bool t2, .bool t3, .int .i64 t4, .float .f64 t5, .string t6, .pointer t7, .pointer t8, .pointer t9, .bool t10, .bool t11, .bool t12, .bool t13, .bool t14, .bool t15] 99 (0, 0))) := hk4.get HT.out (by simp); have u0 := cell_at HT4.out 0 rfl; have u1 := cell_at HT4.out 1 rfl; have u2 := cell_at HT4.out 2 rfl; have u3 := cell_at HT4.out 3 rfl; have u4 := cell_at HT4.out 4 rfl; have u5 := cell_at HT4.out 5 rfl; have u6 := cell_at HT4.out 6 rfl; have u7 := cell_at HT4.out 7 rfl; have u8 := cell_at HT4.out 8 rfl; have u9 := cell_at HT4.out 9 rfl; have u10 := cell_at HT4.out 10 rfl; have u11 := cell_at HT4.out 11 rfl; have u12 := cell_at HT4.out 12 rfl; have u13 := cell_at HT4.out 13 rfl; have u14 := cell_at HT4.out 14 rfl; have u15 := cell_at HT4.out 15 rfl; have HK4 : Hid (Kx [] w w4) := (show Kx [] w w4 from (HK3.out.drw1).same hk4)) | (go_simp; go_at_call 41; refine (CD.out _ HK4.out).mono ?_; rintro e w5 ⟨er, rfl, hEr, hR⟩))
  all_goals
    have HR : Hid (R w5) := hR
    have HER : Hid (E er) := hEr
    clear u0 u1 u2 u3 u4 u5 u6 u7 u8 u9 u10 u11 u12 u13 u14 u15 z0 z1 z2 z3 z4 z5 z6 z7 z8 z9 z10 z11 z12 z13 z14 z15 hR hEr CD CK
    go_wp2
    go_ret
    exact ⟨er, rfl, HER.out, HR.out⟩
set_option maxRecDepth 100000 in
set_option maxHeartbeats 2000000 in
theorem define_faceN (O H b : Nat) (l : List Nat) (r : Int) (s : ByteArray) (d0 d1 d2 d3 d4 d5 d12 d13 d14 : Bool) (k rf g st : Int) (x : Nat) (tx : ByteArray) (t0 t1 t2 t3 : Bool) (t4 : Int) (t5 : Nat) (t6 : ByteArray) (t7 t8 t9 : Option Addr) (t10 t11 t12 t13 t14 t15 : Bool) (w : World)
    (hO : w.cell? ⟨O, 0, none⟩ = some (.pointer (some ⟨H, 0, none⟩))) (hH : Objs w H l) (hr1 : 1 ≤ r) (hr : l[(r - 1).toNat]? = some b)
    (cT : ∀ W, Kx [] w W → Calls Tryz.prog 40 #[.pointer (some ⟨O, 0, none⟩), .agg #[.bool d0, .bool d1, .bool d2, .bool d3, .bool d4, .bool d5, .int .i64 k, .float .f64 x, .string tx, .int .i64 rf, .int .i64 g, .int .i64 st, .bool d12, .bool d13, .bool d14]] W fun e w' => e = .returned (.tuple #[.agg #[.bool t0, .bool t1, .bool t2, .bool t3, .int .i64 t4, .float .f64 t5, .string t6, .pointer t7, .pointer t8, .pointer t9, .bool t10, .bool t11, .bool t12, .bool t13, .bool t14, .bool t15], .bool false]) ∧ Kx [] W w') :
    Calls Tryz.prog 20 #[.pointer (some ⟨O, 0, none⟩), .int .i64 r, .string s, .agg #[.bool d0, .bool d1, .bool d2, .bool d3, .bool d4, .bool d5, .int .i64 k, .float .f64 x, .string tx, .int .i64 rf, .int .i64 g, .int .i64 st, .bool d12, .bool d13, .bool d14]] w fun e w' => e = .returned (.iface 26 (.int .i64 6)) ∧ Kx [] w w' := by
  obtain ⟨W0, hW0⟩ : ∃ W0, W0 = w.alloc (Obj.cells #[.bool d0, .bool d1, .bool d2, .bool d3, .bool d4, .bool d5, .int .i64 k, .float .f64 x, .string tx, .int .i64 rf, .int .i64 g, .int .i64 st, .bool d12, .bool d13, .bool d14] 34) := ⟨_, rfl⟩
  have hk0 : Kx [] w W0 := by rw [hW0]; exact Kx.alloc _ _ _
  have hD0 : W0.heap[w.heap.size]? = some (Obj.cells #[.bool d0, .bool d1, .bool d2, .bool d3, .bool d4, .bool d5, .int .i64 k, .float .f64 x, .string tx, .int .i64 rf, .int .i64 g, .int .i64 st, .bool d12, .bool d13, .bool d14] 34 (0, 0)) := by rw [hW0]; exact heap_alloc_new _ _
  have hO0 : W0.cell? ⟨O, 0, none⟩ = some (.pointer (some ⟨H, 0, none⟩)) := hk0.cell hO (by simp)
  have c1 := numbered_any H l r W0 (hH.kept hk0)
  rw [objP_hit hr1 hr] at c1
  have CT := (show Hid _ from cT)
  have HK0 := (show Hid _ from hk0)
  have HD0 := (show Hid _ from hD0)
  clear cT hk0 hD0 hO hH hr1 hr
  rw [hW0] at hO0
  go_enter Tryz.func20, Tryz.ntmps20
  go_wp2_with (first | (go_at_call 21; fail))
  rw [← hW0]
  clear hW0 hO0
  refine c1.mono ?_
  rintro e w1 ⟨rfl, rfl⟩
  have y0 := cell_at HD0.out 0 rfl
  have y1 := cell_at HD0.out 1 rfl
  have y2 := cell_at HD0.out 2 rfl
  have y3 := cell_at HD0.out 3 rfl
  have y4 := cell_at HD0.out 4 rfl
  have y5 := cell_at HD0.out 5 rfl
  have y6 := cell_at HD0.out 6 rfl
  have y7 := cell_at HD0.out 7 rfl
  have y8 := cell_at HD0.out 8 rfl
  have y9 := cell_at HD0.out 9 rfl
  have y10 := cell_at HD0.out 10 rfl
  have y11 := cell_at HD0.out 11 rfl
  have y12 := cell_at HD0.out 12 rfl
  have y13 := cell_at HD0.out 13 rfl
  have y14 := cell_at HD0.out 14 rfl
  go_wp2_with (first | (go_at_call 40; fail))
  refine (CT.out w1 HK0.out).mono ?_
  rintro e w2 ⟨rfl, hk2⟩
  clear y0 y1 y2 y3 y4 y5 y6 y7 y8 y9 y10 y11 y12 y13 y14 c1 CT HD0
  obtain ⟨W2, hW2⟩ : ∃ W2, W2 = w2.alloc (Obj.cells #[.bool t0, .bool t1, .bool t2, .bool t3, .int .i64 t4, .float .f64 t5, .string t6, .pointer t7, .pointer t8, .pointer t9, .bool t10, .bool t11, .bool t12, .bool t13, .bool t14, .bool t15] 99) := ⟨_, rfl⟩
  have hk3 : Kx [] w W2 := by rw [hW2]; exact (HK0.out.same hk2).alc _
  have HT : Hid (W2.heap[w2.heap.size]? = some (Obj.cells #[.bool t0, .bool t1, .bool t2, .bool t3, .int .i64 t4, .float .f64 t5, .string t6, .pointer t7, .pointer t8, .pointer t9, .bool t10, .bool t11, .bool t12, .bool t13, .bool t14, .bool t15] 99 (0, 0))) := by rw [hW2]; exact heap_alloc_new _ _
  have HK3 := (show Hid _ from hk3)
  clear hk2 hk3 HK0
  go_wp2
  go_ret
  rw [← hW2]
  exact ⟨rfl, HK3.out⟩
end Go.Proofs.YtmicdbplkfdfnaaGreatDoor
set_option linter.unusedVariables false
namespace Go.Proofs.YtmicdbplkfdfnaaGreatDoor
open Go.RowKit Go.Shelf Go.Maps

theorem order_lt_self {n : Nat} (h : n < 9007199254740992) : (FloatKind.f64.format.order (wN n) (wN n) == some .lt) = false := by
  rw [order_wN h h, Fl.cmp_eq]; rfl
theorem FSt.shutLen {w : World} {n0 O H b : Nat} {L : List ByteArray} {P : List Pr} {f : Nat → Option Pr} {F : Fp} (h : FSt w n0 O H b true false L P f F) (n : Nat) (hn : n ≤ 4294967295) (hp : pf L lenS = some 0) (hP0 : P[0]? = some (true, false, false, wN n)) :
    Calls Tryz.prog 41 #[.pointer (some ⟨b, 0, none⟩), .agg #[.string lenS, .int .u32 0, .bool false], .agg #[.bool false, .bool false, .bool false, .bool false, .int .i64 0, .float .f64 0, .string ⟨#[]⟩, .pointer none, .pointer none, .pointer none, .bool false, .bool false, .bool false, .bool true, .bool false, .bool true]] w fun e w' => e = .returned .nilIface ∧ Shut2 w n0 O H b true L (P.set 0 (false, false, false, wN n)) f F w' := by
  have hb0 : w.cell? ⟨b, 0, none⟩ = some (.string (clsS true)) := cell_at h.obj 0 rfl
  have hpos : 0 < P.length := (List.getElem?_eq_some_iff.1 hP0).1
  have hl := h.len
  have hbl := h.bL
  refine (define_len b (clsS true) lenS 0 false false false false false false false true false true 0 0 ⟨#[]⟩ none none none (fun er => er = .nilIface) (Shut2 w n0 O H b true L (P.set 0 (false, false, false, wN n)) f F) w rfl hb0 (clsS_is true) (by decide +kernel) ?_).mono ?_
  · intro W hW
    have hs := h.kept0 hW
    obtain ⟨g, cap, e⟩ := ownsRow_pos hpos hs.prs
    have hprs := hs.prs
    rw [e] at hprs
    have c := fun (t : Nat) (ht : t < 10) (v : Value) (hv : (prL (true, false, false, wN n))[t]? = some v) => prs_cells hprs hP0 t ht v hv
    refine (len_set b g P.length cap false false false false false true false true 0 0 (wN n) 0 ⟨#[]⟩ none none none true false false false false false (F.blocks O H b) (Shut2 w n0 O H b true L (P.set 0 (false, false, false, wN n)) f F) W (by rw [cell_at hs.obj 6 rfl]; exact congrArg some e) hpos (by omega) (fun i hi => (hs.lt i hi).2)
      (by simpa using c 0 (by omega) _ rfl) (by simpa using c 1 (by omega) _ rfl) (by simpa using c 2 (by omega) _ rfl) (by simpa using c 3 (by omega) _ rfl) (by simpa using c 4 (by omega) _ rfl) (by simpa using c 5 (by omega) _ rfl) (by simpa using c 6 (by omega) _ rfl) (by simpa using c 7 (by omega) _ rfl) (by simpa using c 8 (by omega) _ rfl) (by simpa using c 9 (by omega) _ rfl)
      add00 (fun W2 hW2 => refuses_len false (wN n) W2) (fun W2 hW2 => with_shut true false false (wN n) W2)
      (fun W2 hW2 => (h.setLen lenS (by decide +kernel) 0 hp (wN n) hP0 W2 (hW.same hW2)).mono fun e w' h2 => by
        obtain ⟨g1, g2, F', g3, g4, g5⟩ := h2
        exact ⟨g1, g2, F', g3, g4⟩) (order_lt_self (by omega))).mono ?_
    rintro e2 w' ⟨h1, h2⟩
    exact ⟨_, h1, rfl, h2⟩
  · rintro e w' ⟨er, h1, rfl, h2⟩
    exact ⟨h1, h2⟩
/-- plain.Define, as the law shuts a key. -/
theorem FSt.plain2 {w : World} {n0 O H b : Nat} {arr : Bool} {L : List ByteArray} {P P' : List Pr} {f f' : Nat → Option Pr} {F : Fp} (h : FSt w n0 O H b arr false L P f F) (hE : Env w) (s : ByteArray) (hs : s.size ≤ 2000000)
    (cD : ∀ W, Kx [] w W → Calls Tryz.prog 41 #[.pointer (some ⟨b, 0, none⟩), .agg #[.string (keyN (unitsS s)), .int .u32 (keyP (unitsS s)), .bool (keyI (unitsS s))], .agg #[.bool false, .bool false, .bool false, .bool false, .int .i64 0, .float .f64 0, .string ⟨#[]⟩, .pointer none, .pointer none, .pointer none, .bool false, .bool false, .bool false, .bool true, .bool false, .bool true]] W fun e w' => e = .returned .nilIface ∧ Shut2 W n0 O H b arr L P' f' F w') :
    Calls Tryz.prog 7 #[.pointer (some ⟨O, 0, none⟩), .int .i64 1, .string s, .agg #[.bool false, .bool false, .bool false, .bool true, .bool false, .bool true, .int .i64 0, .float .f64 0, .string ⟨#[]⟩, .int .i64 0, .int .i64 0, .int .i64 0, .bool false, .bool false, .bool false]] w fun e w' => e = .returned (.int .i64 0) ∧ Shut2 w n0 O H b arr L P' f' F w' := by
  refine (define_plain O 1 s false false false true false true false false false 0 0 0 0 0 ⟨#[]⟩ (Shut2 w n0 O H b arr L P' f' F) w ?_).mono fun e w' h2 => ?_
  · intro W hW
    have hsW := h.kept0 hW
    refine (define_face O H b [b] 1 s _ _ _ false false false true false true false false false 0 0 0 0 0 ⟨#[]⟩ false false false false 0 0 ⟨#[]⟩ none none none false false false true false true (Shut2 W n0 O H b arr L P' f' F) W hsW.O0 hsW.objs (by omega) (by simp)
      (fun W2 hW2 => told_any O false false false true false true false false false true true true 0 0 0 0 0 0 0 ⟨#[]⟩ ⟨#[]⟩ none none none W2 (fun h => by cases h) (fun _ => ⟨rfl, rfl, rfl, rfl, rfl⟩) (fun h => by cases h) (fun _ => ⟨rfl, rfl⟩) (fun h => by cases h) (fun _ => ⟨rfl, rfl⟩))
      (keyc s hs W (hE.kx hW))
      (fun W2 hW2 => (cD W2 (hW.same hW2)).mono fun e w' h3 => ⟨h3.1, h3.2.from hW2⟩)).mono fun e w' h3 => ⟨h3.1, h3.2.from hW⟩
  · obtain ⟨h1, W, h3, h4⟩ := h2
    exact ⟨h1, h3.kx h4⟩
end Go.Proofs.YtmicdbplkfdfnaaGreatDoor
set_option linter.unusedVariables false
namespace Go.Proofs.YtmicdbplkfdfnaaGreatDoor
open Go.RowKit Go.Shelf Go.Maps
attribute [local go_sem] run_store_flt

set_option maxRecDepth 100000 in
set_option maxHeartbeats 2000000 in
theorem delete_none (b : Nat) (nm : ByteArray) (pl : Int) (isP : Bool) (w : World)
    (cO : ∀ W, Kx [] w W → Calls Tryz.prog 25 #[.pointer (some ⟨b, 0, none⟩), .agg #[.string nm, .int .u32 pl, .bool isP]] W fun e w' => e = .returned (.tuple #[noP, .bool false]) ∧ Kx [] W w') :
    Calls Tryz.prog 56 #[.pointer (some ⟨b, 0, none⟩), .agg #[.string nm, .int .u32 pl, .bool isP]] w fun e w' => e = .returned .nilIface ∧ Kx [] w w' := by
  have HO := (show Hid (∀ W, Kx [] w W → Calls Tryz.prog 25 #[.pointer (some ⟨b, 0, none⟩), .agg #[.string nm, .int .u32 pl, .bool isP]] W fun e w' => e = .returned (.tuple #[noP, .bool false]) ∧ Kx [] W w') from cO)
  clear cO
  go_enter Tryz.func56, Tryz.ntmps56
  go_wp2_with (first | (go_at_call 25; fail))
  refine (HO.out _ (Kx.alloc _ _ _)).mono ?_
  rintro e w1 ⟨rfl, hk1⟩
  have HK := (show Hid (Kx [] w w1) from (Kx.alloc [] _ _).same hk1)
  clear hk1 HO
  unfold noP
  go_wp2
  go_ret
  exact ⟨rfl, HK.out.alc _⟩
set_option maxRecDepth 100000 in
set_option maxHeartbeats 2000000 in
theorem delete_kept (b : Nat) (nm : ByteArray) (pl : Int) (isP : Bool) (q0 q1 q3 : Bool) (q4 : Int) (q5 : Nat) (q6 : ByteArray) (q7 q8 q9 : Option Addr) (w : World)
    (cO : ∀ W, Kx [] w W → Calls Tryz.prog 25 #[.pointer (some ⟨b, 0, none⟩), .agg #[.string nm, .int .u32 pl, .bool isP]] W fun e w' => e = .returned (.tuple #[.agg #[.bool q0, .bool q1, .bool false, .bool q3, .int .i64 q4, .float .f64 q5, .string q6, .pointer q7, .pointer q8, .pointer q9], .bool true]) ∧ Kx [] W w') :
    Calls Tryz.prog 56 #[.pointer (some ⟨b, 0, none⟩), .agg #[.string nm, .int .u32 pl, .bool isP]] w fun e w' => e = .returned (.iface 26 (.int .i64 6)) ∧ Kx [] w w' := by
  have HO := (show Hid (∀ W, Kx [] w W → Calls Tryz.prog 25 #[.pointer (some ⟨b, 0, none⟩), .agg #[.string nm, .int .u32 pl, .bool isP]] W fun e w' => e = .returned (.tuple #[.agg #[.bool q0, .bool q1, .bool false, .bool q3, .int .i64 q4, .float .f64 q5, .string q6, .pointer q7, .pointer q8, .pointer q9], .bool true]) ∧ Kx [] W w') from cO)
  clear cO
  go_enter Tryz.func56, Tryz.ntmps56
  go_wp2_with (first | (go_at_call 25; fail))
  refine (HO.out _ (Kx.alloc _ _ _)).mono ?_
  rintro e w1 ⟨rfl, hk1⟩
  have HK := (show Hid (Kx [] w w1) from (Kx.alloc [] _ _).same hk1)
  clear hk1 HO
  go_wp2
  go_ret
  exact ⟨rfl, HK.out.alc _⟩
end Go.Proofs.YtmicdbplkfdfnaaGreatDoor
