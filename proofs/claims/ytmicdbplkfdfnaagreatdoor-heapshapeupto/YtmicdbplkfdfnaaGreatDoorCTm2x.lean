/- The object is fixed and all is shut: Define of anything, Delete. -/
import Derived.Test.YtmicdbplkfdfnaaGreatDoorCSy3x
import Derived.Test.YtmicdbplkfdfnaaGreatDoorCTj1x
import Derived.Test.YtmicdbplkfdfnaaGreatDoorCTk1x
import Derived.Test.YtmicdbplkfdfnaaGreatDoorCHo3x
import Derived.BigQuiet
import Derived.Deep.DeepCutAuto
import Derived.Deep.CutBlock
set_option linter.unusedVariables false
namespace Go.Proofs.YtmicdbplkfdfnaaGreatDoor
open Go.RowKit Go.Shelf Go.Maps

theorem FSt.def4Name {w : World} {n0 O H b : Nat} {arr : Bool} {L : List ByteArray} {P : List Pr} {f : Nat → Option Pr} {F : Fp} (h : FSt w n0 O H b arr true L P f F) (I : Inv4 arr L P f) (us : List Nat) (hx : ixOf us < 0) (hsz : (txt us).size ≤ 100000000) (hlen : arr = true → txt us ≠ lenS)
    (t0 t1 t2 hv hg hs hw he hc : Bool) (t4 : Int) (t5 : Nat) (t6 : ByteArray) (t7 t8 t9 : Option Addr) (hV : t4 = 3 → t6 = ⟨#[]⟩ ∧ t7 = none) (h8 : hg = false → t8 = none) (h9 : hs = false → t9 = none) (hFV : ((hg || hs) && (hv || hw)) = false) :
    Calls Tryz.prog 41 #[.pointer (some ⟨b, 0, none⟩), .agg #[.string (keyN us), .int .u32 (keyP us), .bool (keyI us)], .agg #[.bool t0, .bool t1, .bool t2, .bool false, .int .i64 t4, .float .f64 t5, .string t6, .pointer t7, .pointer t8, .pointer t9, .bool hv, .bool hg, .bool hs, .bool hw, .bool he, .bool hc]] w fun e w' => ∃ er, e = .returned er ∧ ErrV er ∧ Keep4 w n0 O H b arr L P f F w' := by
  have hmx : (txt us).size ≤ maxLen := by unfold maxLen; omega
  have hb0 : w.cell? ⟨b, 0, none⟩ = some (.string (clsS arr)) := cell_at h.obj 0 rfl
  have hT : ∀ i ∈ F.blocks O H b, i < w.heap.size := fun i hi => (h.lt i hi).2
  have no6 : ∀ (e : Ending) (w' : World), (e = .returned (.iface 26 (.int .i64 6)) ∧ Kx [] w w') → ∃ er, e = .returned er ∧ ErrV er ∧ Keep4 w n0 O H b arr L P f F w' := fun e w' h2 => ⟨_, h2.1, .inr (.inr rfl), h.keep h2.2⟩
  have fin : ∀ (e : Ending) (w' : World), (e = .returned .nilIface ∧ ∃ W q, Keep4 w n0 O H b arr L P f F W ∧ w' = W.drewN q) → ∃ er, e = .returned er ∧ ErrV er ∧ Keep4 w n0 O H b arr L P f F w' := by
    rintro e w' ⟨h1, W, q, h2, rfl⟩
    exact ⟨_, h1, .inl rfl, h2.kx (Kx.drewN _ _ _)⟩
  have c25 := h.own us hmx
  obtain ⟨k1, k2, k3⟩ := keyN_name hx
  rw [k1, k2, k3] at c25 ⊢
  rw [look_name hx] at c25
  have cT : ∀ W, Kx [] w W → Calls Tryz.prog 68 #[.pointer (some ⟨b, 0, none⟩), .agg #[.string (txt us), .int .u32 0, .bool false]] W fun e w' => e = .returned (.bool false) ∧ Kx [] W w' := fun W hW => takes_fixed b (txt us) 0 false W (cell_at (hW.get h.obj (by simp)) 2 rfl)
  cases hp : pf L (txt us) with
  | none =>
    rw [hp] at c25
    cases arr with
    | false => exact (define_no b (clsS false) (txt us) 0 false t0 t1 t2 hv hg hs hw he hc t4 t5 t6 t7 t8 t9 false false false 0 0 ⟨#[]⟩ none w hFV hb0 (clsS_is false) c25 cT).mono no6
    | true => exact (define_noA b (clsS true) (txt us) 0 false t0 t1 t2 hv hg hs hw he hc t4 t5 t6 t7 t8 t9 false false false 0 0 ⟨#[]⟩ none w hFV hb0 (clsS_is true) (name_ne (hlen rfl)) c25 cT).mono no6
  | some i =>
    have hLi := (pf_get _ L rfl h.nd _ i).1 hp
    have hil := (List.getElem?_eq_some_iff.1 hLi).1
    obtain ⟨p, hPi⟩ : ∃ p, P[i]? = some p := ⟨_, List.getElem?_eq_getElem (by rw [h.len]; exact hil)⟩
    obtain ⟨q1, n, hn, rfl⟩ := I.prs i p hPi
    rw [hp] at c25
    simp only [Option.bind_some, hPi] at c25
    cases hr : refB q1 t0 t1 t2 (decide (t4 = 3 ∧ t5 = wN n)) hv hg hs hw he hc with
    | true =>
      have cR : ∀ W, Kx [] w W → _ := fun W (hW : Kx [] w W) => refuses_fix q1 t0 t1 t2 hv hg hs hw he hc (wN n) t4 t5 t6 t7 t8 t9 (wN_order n hn) W
      rw [hr] at cR
      cases arr with
      | false => exact (define_ref b (clsS false) (txt us) 0 false t0 t1 t2 hv hg hs hw he hc t4 t5 t6 t7 t8 t9 false q1 false 3 (wN n) ⟨#[]⟩ none w hFV hb0 (clsS_is false) c25 cR).mono no6
      | true => exact (define_refA b (clsS true) (txt us) 0 false t0 t1 t2 hv hg hs hw he hc t4 t5 t6 t7 t8 t9 false q1 false 3 (wN n) ⟨#[]⟩ none w hFV hb0 (clsS_is true) (name_ne (hlen rfl)) c25 cR).mono no6
    | false =>
      obtain ⟨-, -, rfl, rfl, -, -⟩ := refB_no hr
      obtain rfl := h8 rfl
      obtain rfl := h9 rfl
      have cR : ∀ W, Kx [] w W → _ := fun W (hW : Kx [] w W) => refuses_fix q1 t0 t1 t2 hv false false hw he hc (wN n) t4 t5 t6 t7 none none (wN_order n hn) W
      rw [hr] at cR
      have cS : ∀ W, Kx [] w W → Calls Tryz.prog 59 #[.pointer (some ⟨b, 0, none⟩), .agg #[.string (txt us), .int .u32 0, .bool false], .agg #[.bool false, .bool q1, .bool false, .bool false, .int .i64 3, .float .f64 (wN n), .string ⟨#[]⟩, .pointer none, .pointer none, .pointer none]] W fun e w' => (∃ u, e = .returned u) ∧ Kx (F.blocks O H b) W w' ∧ Keep4 w n0 O H b arr L P f F w' := fun W hW =>
        (h.setSame (txt us) hmx i hp false q1 false (wN n) (wN n) hPi W hW).mono fun e w' h2 => by
          obtain ⟨g1, g2, g3, g4⟩ := h2
          rw [set_self P i _ hPi] at g3
          exact ⟨g1, g2, F, g3, g4⟩
      cases arr with
      | false =>
        exact (define_hasN b (clsS false) (txt us) 0 t0 t1 t2 hv hw he hc t4 t5 t6 t7 false q1 false false q1 false 3 3 (wN n) (wN n) ⟨#[]⟩ ⟨#[]⟩ none none (F.blocks O H b) (Keep4 w n0 O H b false L P f F) w hb0 (clsS_is false) hT c25 cR
          (fun W hW => with_keep hr hV W) cS
          (fun W hR => by obtain ⟨_, g1, _⟩ := hR; exact length_no b (clsS false) W (cell_at g1.obj 0 rfl) (clsS_is false))).mono fin
      | true =>
        exact (define_hasNA b (clsS true) (txt us) 0 t0 t1 t2 hv hw he hc t4 t5 t6 t7 false q1 false false q1 false 3 3 (wN n) (wN n) ⟨#[]⟩ ⟨#[]⟩ none none (F.blocks O H b) (Keep4 w n0 O H b true L P f F) w hb0 (clsS_is true) (name_ne (hlen rfl)) hT c25 cR
          (fun W hW => with_keep hr hV W) cS
          (fun W hR => by
            obtain ⟨_, g1, _⟩ := hR
            obtain ⟨_, _, _, j3, _⟩ := I.len rfl
            exact g1.lenAt (List.getElem?_eq_some_iff.1 j3).1)).mono fin
theorem FSt.def4Place {w : World} {n0 O H b : Nat} {arr : Bool} {L : List ByteArray} {P : List Pr} {f : Nat → Option Pr} {F : Fp} (h : FSt w n0 O H b arr true L P f F) (I : Inv4 arr L P f) (us : List Nat) (k : Nat) (hk : ixOf us = (k : Int)) (hkb : k ≤ 4294967294) (hsz : (txt us).size ≤ 100000000)
    (t0 t1 t2 hv hg hs hw he hc : Bool) (t4 : Int) (t5 : Nat) (t6 : ByteArray) (t7 t8 t9 : Option Addr) (hV : t4 = 3 → t6 = ⟨#[]⟩ ∧ t7 = none) (h8 : hg = false → t8 = none) (h9 : hs = false → t9 = none) (hFV : ((hg || hs) && (hv || hw)) = false) (hm : F.m + 1 ≤ 10000) :
    Calls Tryz.prog 41 #[.pointer (some ⟨b, 0, none⟩), .agg #[.string (keyN us), .int .u32 (keyP us), .bool (keyI us)], .agg #[.bool t0, .bool t1, .bool t2, .bool false, .int .i64 t4, .float .f64 t5, .string t6, .pointer t7, .pointer t8, .pointer t9, .bool hv, .bool hg, .bool hs, .bool hw, .bool he, .bool hc]] w fun e w' => ∃ er, e = .returned er ∧ ErrV er ∧ Keep4 w n0 O H b arr L P f F w' := by
  have hmx : (txt us).size ≤ maxLen := by unfold maxLen; omega
  have hb0 : w.cell? ⟨b, 0, none⟩ = some (.string (clsS arr)) := cell_at h.obj 0 rfl
  have hT : ∀ i ∈ F.blocks O H b, i < w.heap.size := fun i hi => (h.lt i hi).2
  have no6 : ∀ (e : Ending) (w' : World), (e = .returned (.iface 26 (.int .i64 6)) ∧ Kx [] w w') → ∃ er, e = .returned er ∧ ErrV er ∧ Keep4 w n0 O H b arr L P f F w' := fun e w' h2 => ⟨_, h2.1, .inr (.inr rfl), h.keep h2.2⟩
  have c25 := h.own us hmx
  obtain ⟨k1, k2, k3⟩ := keyN_place hk
  rw [k1, k2, k3] at c25 ⊢
  rw [look_place hk] at c25
  have hne : ((⟨#[]⟩ : ByteArray).toList == [108, 101, 110, 103, 116, 104]) = false := by decide +kernel
  have cT : ∀ W, Kx [] w W → Calls Tryz.prog 68 #[.pointer (some ⟨b, 0, none⟩), .agg #[.string ⟨#[]⟩, .int .u32 (k : Int), .bool true]] W fun e w' => e = .returned (.bool false) ∧ Kx [] W w' := fun W hW => takes_fixed b ⟨#[]⟩ (k : Int) true W (cell_at (hW.get h.obj (by simp)) 2 rfl)
  cases hp : f k with
  | none =>
    rw [hp] at c25
    cases arr with
    | false => exact (define_no b (clsS false) ⟨#[]⟩ (k : Int) true t0 t1 t2 hv hg hs hw he hc t4 t5 t6 t7 t8 t9 false false false 0 0 ⟨#[]⟩ none w hFV hb0 (clsS_is false) c25 cT).mono no6
    | true => exact (define_noA b (clsS true) ⟨#[]⟩ (k : Int) true t0 t1 t2 hv hg hs hw he hc t4 t5 t6 t7 t8 t9 false false false 0 0 ⟨#[]⟩ none w hFV hb0 (clsS_is true) hne c25 cT).mono no6
  | some p =>
    obtain ⟨_, q1, n, hn, rfl⟩ := I.pls k p hp
    rw [hp] at c25
    cases hr : refB q1 t0 t1 t2 (decide (t4 = 3 ∧ t5 = wN n)) hv hg hs hw he hc with
    | true =>
      have cR : ∀ W, Kx [] w W → _ := fun W (hW : Kx [] w W) => refuses_fix q1 t0 t1 t2 hv hg hs hw he hc (wN n) t4 t5 t6 t7 t8 t9 (wN_order n hn) W
      rw [hr] at cR
      cases arr with
      | false => exact (define_ref b (clsS false) ⟨#[]⟩ (k : Int) true t0 t1 t2 hv hg hs hw he hc t4 t5 t6 t7 t8 t9 false q1 false 3 (wN n) ⟨#[]⟩ none w hFV hb0 (clsS_is false) c25 cR).mono no6
      | true => exact (define_refA b (clsS true) ⟨#[]⟩ (k : Int) true t0 t1 t2 hv hg hs hw he hc t4 t5 t6 t7 t8 t9 false q1 false 3 (wN n) ⟨#[]⟩ none w hFV hb0 (clsS_is true) hne c25 cR).mono no6
    | false =>
      obtain ⟨-, -, rfl, rfl, -, -⟩ := refB_no hr
      obtain rfl := h8 rfl
      obtain rfl := h9 rfl
      have cR : ∀ W, Kx [] w W → _ := fun W (hW : Kx [] w W) => refuses_fix q1 t0 t1 t2 hv false false hw he hc (wN n) t4 t5 t6 t7 none none (wN_order n hn) W
      rw [hr] at cR
      have cU : ∀ W, Kx [] w W → Calls Tryz.prog 45 #[.pointer (some ⟨b, 0, none⟩)] W fun e w' => e = .returned (.int .i64 0) ∧ ∃ q, w' = W.drewN q := fun W hW => (units_zero b W (cell_at (hW.get h.obj (by simp)) 3 rfl)).mono fun e w' h => ⟨h.1, 0, h.2⟩
      let R : World → Prop := fun W => ∃ F', FSt W n0 O H b arr true L P f F' ∧ Nxt w O H b F W F' ∧ F'.al = F.al ∧ F'.nv = F.nv
      have cS : ∀ W, Kx [] w W → Calls Tryz.prog 59 #[.pointer (some ⟨b, 0, none⟩), .agg #[.string ⟨#[]⟩, .int .u32 (k : Int), .bool true], .agg #[.bool false, .bool q1, .bool false, .bool false, .int .i64 3, .float .f64 (wN n), .string ⟨#[]⟩, .pointer none, .pointer none, .pointer none]] W fun e w' => (∃ u, e = .returned u) ∧ Kx (F.blocks O H b) W w' ∧ R w' := fun W hW =>
        (h.setPlace k (by omega) q1 false (wN n) hm W hW).mono fun e w' h2 => by
          obtain ⟨g1, g2, F', g3, g4⟩ := h2
          rw [upd_self hp] at g3
          exact ⟨g1, g2, F', g3, g4⟩
      cases arr with
      | false =>
        refine (define_hasP b (clsS false) ⟨#[]⟩ (k : Int) t0 t1 t2 hv hw he hc t4 t5 t6 t7 false q1 false false q1 false 3 3 (wN n) (wN n) ⟨#[]⟩ ⟨#[]⟩ none none (F.blocks O H b) R w hb0 (clsS_is false) hT c25 cR cU
          (fun W hW => with_keep hr hV W) cS
          (fun W hR => by obtain ⟨F', g1, _⟩ := hR; exact length_no b (clsS false) W (cell_at g1.obj 0 rfl) (clsS_is false)) (by omega) (by omega)).mono ?_
        rintro e w' ⟨h1, W, q, ⟨F', g1, g2, g3, g4⟩, rfl⟩
        exact ⟨_, h1, .inl rfl, Keep4.kx ⟨F', g1, g2⟩ (Kx.drewN _ _ _)⟩
      | true =>
        obtain ⟨_, m, i2, i3, i4⟩ := I.len rfl
        have i4 := i4 k _ hp
        have hpos : 0 < P.length := (List.getElem?_eq_some_iff.1 i3).1
        obtain ⟨g, cap, e⟩ := ownsRow_pos hpos h.prs
        have hl := h.len
        have hbl := h.bL
        have cL : ∀ W, R W → Calls Tryz.prog 70 #[.pointer (some ⟨b, 0, none⟩)] W fun e w' => e = .returned (.pointer (some ⟨g, 4, none⟩)) ∧ w' = W := fun W hR => by
          obtain ⟨F', g1, g2, g3, g4⟩ := hR
          exact length_arr b g P.length cap W (cell_at g1.obj 0 rfl) (by rw [cell_at g1.obj 6 rfl]; exact congrArg some (g4.trans e)) hpos (by omega)
        have hxc : ∀ W, R W → W.cell? ⟨g, 5, none⟩ = some (.float .f64 (wN m)) ∧ W.frozen? ⟨g, 5, none⟩ = false := fun W hR => by
          obtain ⟨F', g1, g2, g3, g4⟩ := hR
          have hp1 := g1.prs
          rw [g4, e] at hp1
          obtain ⟨cur, hG, _⟩ := prs_cur hp1 i3 hpos
          exact ⟨by have := prs_cells hp1 i3 5 (by omega) _ rfl; simpa using this, fr_all hG 5⟩
        refine (define_hasPA b (clsS true) ⟨#[]⟩ (k : Int) t0 t1 t2 hv hw he hc t4 t5 t6 t7 false q1 false false q1 false 3 3 (wN n) (wN n) ⟨#[]⟩ ⟨#[]⟩ none none (F.blocks O H b) R g (wN m) (wN k) (wN (k + 1)) (wN (max m (k + 1))) w hb0 (clsS_is true) hne hT c25 cR cU
          (fun W hW => with_keep hr hV W) cS cL (by omega) (by omega) hxc (conv65 k) (plus1 k (by omega)) (max_wN m (k + 1) (by omega) (by omega))).mono ?_
        rintro e2 w' ⟨h1, W, q, ⟨F', g1, g2, g3, g4⟩, rfl⟩
        have g1' := g1.kept0 (Kx.drewN [] W q)
        obtain ⟨s1, s2⟩ := g1'.lenNum (g4.trans e) false false false (wN m) (wN (max m (k + 1))) i3
        rw [Nat.max_eq_left i4] at s1 s2 ⊢
        rw [set_self P 0 _ i3] at s1
        exact ⟨_, h1, .inl rfl, F', s1, (g2.1.drw q).trans s2 (fun i hi => g2.2.1 i hi), g2.2⟩
theorem FSt.def4Len {w : World} {n0 O H b : Nat} {L : List ByteArray} {P : List Pr} {f : Nat → Option Pr} {F : Fp} (h : FSt w n0 O H b true true L P f F) (I : Inv4 true L P f)
    (t0 t1 t2 hv hg hs hw he hc : Bool) (t4 : Int) (t5 : Nat) (hx5 : t4 = 3 → t5 < 18446744073709551616) (t6 : ByteArray) (t7 t8 t9 : Option Addr) (hV : t4 = 3 → t6 = ⟨#[]⟩ ∧ t7 = none) (hV0 : hv = false → t4 = 0 ∧ t5 = 0) (h8 : hg = false → t8 = none) (h9 : hs = false → t9 = none) (hFV : ((hg || hs) && (hv || hw)) = false) :
    Calls Tryz.prog 41 #[.pointer (some ⟨b, 0, none⟩), .agg #[.string lenS, .int .u32 0, .bool false], .agg #[.bool t0, .bool t1, .bool t2, .bool false, .int .i64 t4, .float .f64 t5, .string t6, .pointer t7, .pointer t8, .pointer t9, .bool hv, .bool hg, .bool hs, .bool hw, .bool he, .bool hc]] w fun e w' => ∃ er, e = .returned er ∧ ErrV er ∧ Keep4 w n0 O H b true L P f F w' := by
  have hb0 : w.cell? ⟨b, 0, none⟩ = some (.string (clsS true)) := cell_at h.obj 0 rfl
  obtain ⟨hL0, n, hn, hP0, hlt⟩ := I.len rfl
  have hp : pf L lenS = some 0 := (pf_get _ L rfl h.nd _ 0).2 hL0
  have hpos : 0 < P.length := (List.getElem?_eq_some_iff.1 hP0).1
  have hl := h.len
  have hbl := h.bL
  refine define_len b (clsS true) lenS 0 false t0 t1 t2 hv hg hs hw he hc t4 t5 t6 t7 t8 t9 ErrV (Keep4 w n0 O H b true L P f F) w hFV hb0 (clsS_is true) (by decide +kernel) ?_
  intro W hW
  have hs1 := h.kept0 hW
  obtain ⟨g, cap, e⟩ := ownsRow_pos hpos hs1.prs
  have hprs := hs1.prs
  rw [e] at hprs
  have c := fun (t : Nat) (ht : t < 10) (v : Value) (hv : (prL (false, false, false, wN n))[t]? = some v) => prs_cells hprs hP0 t ht v hv
  obtain ⟨z, hz⟩ : ∃ z, (hv = true → LenB t4 t5 true) → ∀ W, (binOp .add 30 (.float .f64 t5) (.float .f64 0)).run Tryz.prog W = .ok (.float .f64 z) W := by
    cases hv with
    | false =>
      obtain ⟨_, rfl⟩ := hV0 rfl
      exact ⟨0, fun _ W => add00 W⟩
    | true =>
      by_cases hB : LenB t4 t5 true
      · obtain ⟨h1, z, hz⟩ := lenB_fin (hx5 (hB rfl).1) hB
        exact ⟨z, fun _ W => run_float_arith W .add 30 .f64 _ _ _ hz⟩
      · exact ⟨0, fun hh => absurd (hh rfl) hB⟩
  obtain ⟨rb, hr⟩ : ∃ rb, refB false t0 t1 t2 (decide (t4 = 3 ∧ z = wN n)) hv hg hs hw he hc = rb := ⟨_, rfl⟩
  have cR : ∀ W2, Kx [] W W2 → _ := fun W2 (hW2 : Kx [] W W2) => refuses_fix false t0 t1 t2 hv hg hs hw he hc (wN n) t4 z t6 t7 t8 t9 (wN_order n hn) W2
  rw [hr] at cR
  refine (len_all b g P.length cap t0 t1 t2 hv hg hs hw he hc t4 t5 (wN n) z t6 t7 t8 t9 false false false false false false rb (F.blocks O H b) (Keep4 w n0 O H b true L P f F) W (by rw [cell_at hs1.obj 6 rfl]; exact congrArg some e) hpos (by omega) (fun i hi => (hs1.lt i hi).2)
    (by simpa using c 0 (by omega) _ rfl) (by simpa using c 1 (by omega) _ rfl) (by simpa using c 2 (by omega) _ rfl) (by simpa using c 3 (by omega) _ rfl) (by simpa using c 4 (by omega) _ rfl) (by simpa using c 5 (by omega) _ rfl) (by simpa using c 6 (by omega) _ rfl) (by simpa using c 7 (by omega) _ rfl) (by simpa using c 8 (by omega) _ rfl) (by simpa using c 9 (by omega) _ rfl)
    hz cR ?_ ?_ ?_ (order_lt_self (by omega))).mono ?_
  · intro hrb W2 hW2
    rw [hrb] at hr
    obtain ⟨-, -, rfl, rfl, -, -⟩ := refB_no hr
    obtain rfl := h8 rfl
    obtain rfl := h9 rfl
    exact with_keep hr hV W2
  · intro hrb W2 hW2
    exact (h.setSame lenS (by decide +kernel) 0 hp false false false (wN n) (wN n) hP0 W2 (hW.same hW2)).mono fun e w' h2 => by
      obtain ⟨g1, g2, g3, g4⟩ := h2
      rw [set_self P 0 _ hP0] at g3
      exact ⟨g1, g2, F, g3, g4⟩
  · intro hrb hvt
    rw [hrb] at hr
    obtain ⟨-, -, -, -, -, h5⟩ := refB_no hr
    obtain ⟨-, rfl⟩ := of_decide_eq_true (h5 hvt)
    have := wN_order n hn
    simp only [beq_iff_eq] at this
    rw [this]
    rfl
  · rintro e2 w' ⟨er, h1, h2, h3⟩
    refine ⟨er, h1, h2, ?_⟩
    rcases h3 with h3 | ⟨_, h3⟩
    · exact h.keep (hW.same h3)
    · exact h3
/-- Define of anything. -/
theorem FSt.defAny {w : World} {n0 O H b : Nat} {arr : Bool} {L : List ByteArray} {P : List Pr} {f : Nat → Option Pr} {F : Fp} (h : FSt w n0 O H b arr true L P f F) (I : Inv4 arr L P f) (us : List Nat) (hsz : (txt us).size ≤ 100000000)
    (t0 t1 t2 hv hg hs hw he hc : Bool) (t4 : Int) (t5 : Nat) (hx5 : t4 = 3 → t5 < 18446744073709551616) (t6 : ByteArray) (t7 t8 t9 : Option Addr) (hV : t4 = 3 → t6 = ⟨#[]⟩ ∧ t7 = none) (hV0 : hv = false → t4 = 0 ∧ t5 = 0) (h8 : hg = false → t8 = none) (h9 : hs = false → t9 = none) (hm : F.m + 1 ≤ 10000) :
    Calls Tryz.prog 41 #[.pointer (some ⟨b, 0, none⟩), .agg #[.string (keyN us), .int .u32 (keyP us), .bool (keyI us)], .agg #[.bool t0, .bool t1, .bool t2, .bool false, .int .i64 t4, .float .f64 t5, .string t6, .pointer t7, .pointer t8, .pointer t9, .bool hv, .bool hg, .bool hs, .bool hw, .bool he, .bool hc]] w fun e w' => ∃ er, e = .returned er ∧ ErrV er ∧ Keep4 w n0 O H b arr L P f F w' := by
  cases hFV : ((hg || hs) && (hv || hw)) with
  | true =>
    have h2 : (hg || hs) = true ∧ (hv || hw) = true := by simpa using hFV
    exact (define_both b (clsS arr) (keyN us) (keyP us) (keyI us) t0 t1 t2 hv hg hs hw he hc t4 t5 t6 t7 t8 t9 w h2.1 h2.2).mono fun e w' h3 => ⟨_, h3.1, .inr (.inr rfl), h.keep h3.2⟩
  | false =>
    by_cases hx : ixOf us < 0
    · by_cases hl : arr = true ∧ txt us = lenS
      · obtain ⟨rfl, hl⟩ := hl
        obtain ⟨k1, k2, k3⟩ := keyN_name hx
        rw [k1, k2, k3, hl]
        exact h.def4Len I t0 t1 t2 hv hg hs hw he hc t4 t5 hx5 t6 t7 t8 t9 hV hV0 h8 h9 hFV
      · exact h.def4Name I us hx hsz (fun ha e => hl ⟨ha, e⟩) t0 t1 t2 hv hg hs hw he hc t4 t5 t6 t7 t8 t9 hV h8 h9 hFV
    · obtain ⟨k, hk, hkb⟩ := ixOf_range us hx
      exact h.def4Place I us k hk hkb hsz t0 t1 t2 hv hg hs hw he hc t4 t5 t6 t7 t8 t9 hV h8 h9 hFV hm
/-- Delete of anything. -/
theorem FSt.delAny {w : World} {n0 O H b : Nat} {arr : Bool} {L : List ByteArray} {P : List Pr} {f : Nat → Option Pr} {F : Fp} (h : FSt w n0 O H b arr true L P f F) (I : Inv4 arr L P f) (us : List Nat) (hsz : (txt us).size ≤ 100000000) :
    Calls Tryz.prog 56 #[.pointer (some ⟨b, 0, none⟩), .agg #[.string (keyN us), .int .u32 (keyP us), .bool (keyI us)]] w fun e w' => ∃ er, e = .returned er ∧ ErrV er ∧ Keep4 w n0 O H b arr L P f F w' := by
  have hmx : (txt us).size ≤ maxLen := by unfold maxLen; omega
  have c25 := h.own us hmx
  cases hl : look L P f us with
  | none =>
    rw [hl] at c25
    exact (delete_none b _ _ _ w c25).mono fun e w' h2 => ⟨_, h2.1, .inl rfl, h.keep h2.2⟩
  | some p =>
    rw [hl] at c25
    have hS : ShutP p := by
      unfold look at hl
      split at hl
      · cases hp : pf L (txt us) with
        | none => rw [hp] at hl; cases hl
        | some i => rw [hp] at hl; exact I.prs i p hl
      · exact (I.pls _ p hl).2
    obtain ⟨q1, n, hn, rfl⟩ := hS
    exact (delete_kept b _ _ _ false q1 false 3 (wN n) ⟨#[]⟩ none none none w c25).mono fun e w' h2 => ⟨_, h2.1, .inr (.inr rfl), h.keep h2.2⟩
end Go.Proofs.YtmicdbplkfdfnaaGreatDoor
set_option linter.unusedVariables false
namespace Go.Proofs.YtmicdbplkfdfnaaGreatDoor
open Go.RowKit Go.Shelf Go.Maps
attribute [local go_sem] run_store_flt

set_option maxRecDepth 100000 in
set_option maxHeartbeats 2000000 in
theorem value_undef (k : Int) (hk : k = 0 ∨ k = 1) (O x : Nat) (s : ByteArray) (r : Int) (w : World) :
    Calls Tryz.prog 63 #[.pointer (some ⟨O, 0, none⟩), .agg #[.int .i64 k, .float .f64 x, .string s, .int .i64 r]] w fun e w' => e = .returned (.tuple #[.agg #[.int .i64 k, .float .f64 0, .string ⟨#[]⟩, .pointer none], .bool true]) ∧ Kx [] w w' := by
  rcases hk with rfl | rfl <;>
  · go_enter Tryz.func63, Tryz.ntmps63
    go_wp2
    refine bodyPost_ret (results_row_tmp rfl _ _ (w.heap.size + 1) 73 _ (0, 0) _ rfl (heap_old (heap_alloc2_new _ _ _) _) Tryz.underlying73 rfl (by kernel_rfl) _ rfl) rfl ?_
    exact ⟨rfl, ((Kx.alloc _ _ _).alc _).alc _⟩
set_option maxRecDepth 100000 in
set_option maxHeartbeats 2000000 in
theorem value_bool (O x : Nat) (z : Bool) (hz : (FloatKind.f64.format.order x 0 == some .eq) = z) (s : ByteArray) (r : Int) (w : World) :
    Calls Tryz.prog 63 #[.pointer (some ⟨O, 0, none⟩), .agg #[.int .i64 2, .float .f64 x, .string s, .int .i64 r]] w fun e w' => e = .returned (.tuple #[.agg #[.int .i64 2, .float .f64 (if z then 0 else 4607182418800017408), .string ⟨#[]⟩, .pointer none], .bool true]) ∧ Kx [] w w' := by
  have hz' : (FloatKind.f64.format.order x 0 != some .eq) = !z := by rw [← hz]; rfl
  clear hz
  cases z <;>
  · simp only [Bool.not_true, Bool.not_false] at hz'
    go_enter Tryz.func63, Tryz.ntmps63
    go_wp2
    refine bodyPost_ret (results_row_tmp rfl _ _ (w.heap.size + 1) 73 _ (0, 0) _ rfl (heap_old (heap_alloc2_new _ _ _) _) Tryz.underlying73 rfl (by kernel_rfl) _ rfl) rfl ?_
    exact ⟨rfl, ((Kx.alloc _ _ _).alc _).alc _⟩
set_option maxRecDepth 100000 in
set_option maxHeartbeats 2000000 in
theorem value_none (k : Int) (h0 : k ≠ 0) (h1 : k ≠ 1) (h2 : k ≠ 2) (h3 : k ≠ 3) (h4 : k ≠ 4) (h5 : k ≠ 5) (O x : Nat) (s : ByteArray) (r : Int) (w : World) :
    Calls Tryz.prog 63 #[.pointer (some ⟨O, 0, none⟩), .agg #[.int .i64 k, .float .f64 x, .string s, .int .i64 r]] w fun e w' => e = .returned (.tuple #[.agg #[.int .i64 0, .float .f64 0, .string ⟨#[]⟩, .pointer none], .bool false]) ∧ Kx [] w w' := by
  go_enter Tryz.func63, Tryz.ntmps63
  go_wp2
  refine bodyPost_ret (results_row_tmp rfl _ _ (w.heap.size + 1) 73 _ (0, 0) _ rfl (heap_old (heap_alloc2_new _ _ _) _) Tryz.underlying73 rfl (by kernel_rfl) _ rfl) rfl ?_
  exact ⟨rfl, ((Kx.alloc _ _ _).alc _).alc _⟩
end Go.Proofs.YtmicdbplkfdfnaaGreatDoor
set_option linter.unusedVariables false
namespace Go.Proofs.YtmicdbplkfdfnaaGreatDoor
open Go.RowKit Go.Shelf Go.Maps
attribute [local go_sem] run_store_flt

set_option maxRecDepth 100000 in
set_option maxHeartbeats 2000000 in
theorem value_obj (O H b : Nat) (l : List Nat) (x : Nat) (s : ByteArray) (r : Int) (w : World) (hO : w.cell? ⟨O, 0, none⟩ = some (.pointer (some ⟨H, 0, none⟩))) (hH : Objs w H l) (hr1 : 1 ≤ r) (hr : l[(r - 1).toNat]? = some b) :
    Calls Tryz.prog 63 #[.pointer (some ⟨O, 0, none⟩), .agg #[.int .i64 5, .float .f64 x, .string s, .int .i64 r]] w fun e w' => e = .returned (.tuple #[.agg #[.int .i64 5, .float .f64 0, .string ⟨#[]⟩, .pointer (some ⟨b, 0, none⟩)], .bool true]) ∧ Kx [] w w' := by
  obtain ⟨W0, hW0⟩ : ∃ W0, W0 = ((w.alloc (Obj.cells #[.int .i64 5, .float .f64 x, .string s, .int .i64 r] 32)).alloc (Obj.cells #[.int .i64 0, .float .f64 0, .string ⟨#[]⟩, .pointer none] 73)).alloc (Obj.cells #[.int .i64 5, .float .f64 0, .string ⟨#[]⟩, .pointer none] 73) := ⟨_, rfl⟩
  have hk0 : Kx [] w W0 := by rw [hW0]; exact (show Kx [] w _ from ((Kx.alloc _ _ _).alc _).alc _)
  have hD0 : W0.heap[w.heap.size]? = some (Obj.cells #[.int .i64 5, .float .f64 x, .string s, .int .i64 r] 32 (0, 0)) := by rw [hW0]; exact heap_old (heap_old (heap_alloc_new _ _) _) _
  have hR0 : W0.heap[w.heap.size + 1]? = some (Obj.cells #[.int .i64 0, .float .f64 0, .string ⟨#[]⟩, .pointer none] 73 (0, 0)) := by rw [hW0]; exact heap_old (heap_alloc2_new _ _ _) _
  have hT0 : W0.heap[w.heap.size + 1 + 1]? = some (Obj.cells #[.int .i64 5, .float .f64 0, .string ⟨#[]⟩, .pointer none] 73 (0, 0)) := by
    have e : w.heap.size + 1 + 1 = ((w.alloc (Obj.cells #[.int .i64 5, .float .f64 x, .string s, .int .i64 r] 32)).alloc (Obj.cells #[.int .i64 0, .float .f64 0, .string ⟨#[]⟩, .pointer none] 73)).heap.size := by simp
    rw [hW0, e]; exact heap_alloc_new _ _
  have cn := fun W (hW : Kx [] w W) => numbered_any H l r W (hH.kept hW)
  rw [objP_hit hr1 hr] at cn
  have CN := (show Hid (∀ W, Kx [] w W → Calls Tryz.prog 21 #[.pointer (some ⟨H, 0, none⟩), .int .i64 r] W fun e w' => e = .returned (.pointer (some ⟨b, 0, none⟩)) ∧ w' = W) from cn)
  have HK0 := (show Hid (Kx [] w W0) from hk0)
  have o0 := hk0.cell hO (by simp)
  have d3 := cell_at hD0 3 rfl
  have f3 := fr_all hT0 3
  have z0 := cell_at hT0 0 rfl
  have z1 := cell_at hT0 1 rfl
  have z2 := cell_at hT0 2 rfl
  have z3 := cell_at hT0 3 rfl
  have hT1 := heap_set_at (C' := #[.int .i64 5, .float .f64 0, .string ⟨#[]⟩, .pointer (some ⟨b, 0, none⟩)]) hT0 3 (.pointer (some ⟨b, 0, none⟩)) rfl
  have hR1 := heap_setCell_ne hR0 (show w.heap.size + 1 + 1 ≠ w.heap.size + 1 by omega) 3 (.pointer (some ⟨b, 0, none⟩))
  have hk1 : Kx [] w (W0.setCell ⟨w.heap.size + 1 + 1, 3, none⟩ (.pointer (some ⟨b, 0, none⟩))) := hk0.trans ((Kx.refl [w.heap.size + 1 + 1] W0).set (by simp) _) (fun i hi => .inr (by simp at hi; omega))
  have HH := (show Hid _ from And.intro hk1 (And.intro hR1 hT1))
  clear cn hk0 hD0 hR0 hT0 hO hH hr1 hr hT1 hR1 hk1
  go_enter Tryz.func63, Tryz.ntmps63
  go_upto_region 14 with fail
  rw [← hW0]
  clear hW0
  go_cut [] (fun wx => Kx [] w wx ∧ wx.heap[w.heap.size + 1]? = some (Obj.cells #[.int .i64 0, .float .f64 0, .string ⟨#[]⟩, .pointer none] 73 (0, 0)) ∧ wx.heap[w.heap.size + 1 + 1]? = some (Obj.cells #[.int .i64 5, .float .f64 0, .string ⟨#[]⟩, .pointer (some ⟨b, 0, none⟩)] 73 (0, 0)))
  case first =>
    go_region_law (first | (go_simp; go_at_call 21; refine (CN.out _ (by first | exact HK0.out | exact HK0.out.drw1 | exact HK0.out.drw _)).mono ?_; rintro e w1 ⟨rfl, h1⟩; obtain rfl := h1.symm))
    all_goals
      go_wp2
      go_meet
      exact ⟨HH.out.1.drw1, HH.out.2.1, HH.out.2.2⟩
  case rest =>
    obtain ⟨hc1, hc2, hc3⟩ := hcut
    have HK1 := (show Hid (Kx [] w wc) from hc1)
    clear HH HK0 CN o0 d3 f3 z0 z1 z2 z3 hc1
    have R0 := heap_set_at (C' := #[.int .i64 5, .float .f64 0, .string ⟨#[]⟩, .pointer none]) hc2 0 (.int .i64 5) rfl
    have R1 := heap_set_at (C' := #[.int .i64 5, .float .f64 0, .string ⟨#[]⟩, .pointer none]) R0 1 (.float .f64 0) rfl
    have R2 := heap_set_at (C' := #[.int .i64 5, .float .f64 0, .string ⟨#[]⟩, .pointer none]) R1 2 (.string ⟨#[]⟩) rfl
    have R3 := heap_set_at (C' := #[.int .i64 5, .float .f64 0, .string ⟨#[]⟩, .pointer (some ⟨b, 0, none⟩)]) R2 3 (.pointer (some ⟨b, 0, none⟩)) rfl
    have T3 := heap_setCell_ne (heap_setCell_ne (heap_setCell_ne (heap_setCell_ne hc3 (show w.heap.size + 1 ≠ w.heap.size + 1 + 1 by omega) 0 (.int .i64 5)) (show w.heap.size + 1 ≠ w.heap.size + 1 + 1 by omega) 1 (.float .f64 0)) (show w.heap.size + 1 ≠ w.heap.size + 1 + 1 by omega) 2 (.string ⟨#[]⟩)) (show w.heap.size + 1 ≠ w.heap.size + 1 + 1 by omega) 3 (.pointer (some ⟨b, 0, none⟩))
    have HR3 := (show Hid _ from R3)
    have y0 := cell_at hc3 0 rfl
    have y1 := cell_at hc3 1 rfl
    have y2 := cell_at hc3 2 rfl
    have y3 := cell_at hc3 3 rfl
    have x0 := cell_at T3 0 rfl
    have x1 := cell_at T3 1 rfl
    have x2 := cell_at T3 2 rfl
    have x3 := cell_at T3 3 rfl
    have u0 := cell_at hc2 0 rfl
    have u1 := cell_at hc2 1 rfl
    have u2 := cell_at hc2 2 rfl
    have u3 := cell_at hc2 3 rfl
    have hf := fr_all hc2
    clear R0 R1 R2 R3 T3 hc2 hc3
    go_upto_region 15 with fail
    go_region_held3 (fun Z : World => Z.cell? ⟨w.heap.size + 1 + 1, 0, none⟩ = some (.int .i64 5) ∧ Z.cell? ⟨w.heap.size + 1 + 1, 1, none⟩ = some (.float .f64 0) ∧ Z.cell? ⟨w.heap.size + 1 + 1, 2, none⟩ = some (.string ⟨#[]⟩) ∧ Z.cell? ⟨w.heap.size + 1 + 1, 3, none⟩ = some (.pointer (some ⟨b, 0, none⟩))) (first | exact ⟨y0, y1, y2, y3⟩ | exact ⟨x0, x1, x2, x3⟩) (fail)
    obtain ⟨Z, hZ⟩ : ∃ Z, Z = ((((wc.setCell ⟨w.heap.size + 1, 0, none⟩ (.int .i64 5)).setCell ⟨w.heap.size + 1, 1, none⟩ (.float .f64 0)).setCell ⟨w.heap.size + 1, 2, none⟩ (.string ⟨#[]⟩)).setCell ⟨w.heap.size + 1, 3, none⟩ (.pointer (some ⟨b, 0, none⟩))) := ⟨_, rfl⟩
    have HZ : Hid (Kx [] w Z) := by rw [hZ]; exact (HK1.out.trans (((((Kx.refl [w.heap.size + 1] wc).set (by simp) _).set (by simp) _).set (by simp) _).set (by simp) _) (fun i hi => .inr (by simp at hi; omega)))
    have HZ2 : Hid (Z.drew.heap[w.heap.size + 1]? = some (Obj.cells #[.int .i64 5, .float .f64 0, .string ⟨#[]⟩, .pointer (some ⟨b, 0, none⟩)] 73 (0, 0))) := by rw [hZ]; exact HR3.out
    rw [← hZ]
    clear hZ HR3 HK1 y0 y1 y2 y3 x0 x1 x2 x3 u0 u1 u2 u3 hf
    go_wp2
    refine bodyPost_ret (results_row_tmp rfl _ _ (w.heap.size + 1) 73 _ (0, 0) _ rfl HZ2.out Tryz.underlying73 rfl (by kernel_rfl) _ rfl) rfl ?_
    exact ⟨rfl, HZ.out.drw1⟩
/-- Every value: its kind is a number's only where nothing is in it besides. -/
theorem value_all (O H b : Nat) (l : List Nat) (k : Int) (x : Nat) (s : ByteArray) (hs : s.size ≤ 2000000) (r : Int) (w : World) (hO : w.cell? ⟨O, 0, none⟩ = some (.pointer (some ⟨H, 0, none⟩))) (hH : Objs w H l) (hr1 : 1 ≤ r) (hr : l[(r - 1).toNat]? = some b) (hT : Lib.Utf8Tabs 2 3 w) :
    ∃ k' x' s' r' ok, (k' = 3 → s' = ⟨#[]⟩ ∧ r' = none ∧ x' = x) ∧ ∀ W, Kx [] w W → Calls Tryz.prog 63 #[.pointer (some ⟨O, 0, none⟩), .agg #[.int .i64 k, .float .f64 x, .string s, .int .i64 r]] W fun e w' => e = .returned (.tuple #[.agg #[.int .i64 k', .float .f64 x', .string s', .pointer r'], .bool ok]) ∧ Kx [] W w' := by
  by_cases h0 : k = 0
  · exact ⟨_, _, _, _, _, (fun h => by omega), fun W _ => value_undef k (.inl h0) O x s r W⟩
  by_cases h1 : k = 1
  · exact ⟨_, _, _, _, _, (fun h => by omega), fun W _ => value_undef k (.inr h1) O x s r W⟩
  by_cases h2 : k = 2
  · subst h2
    exact ⟨_, _, _, _, _, (fun h => by omega), fun W _ => value_bool O x _ rfl s r W⟩
  by_cases h3 : k = 3
  · subst h3
    exact ⟨_, _, _, _, _, fun _ => ⟨rfl, rfl, rfl⟩, fun W _ => value_num O x s r W⟩
  by_cases h4 : k = 4
  · subst h4
    exact ⟨_, _, _, _, _, (fun h => by cases h), fun W hW => value_txt O x s hs r W (tabs_below hT (hW.below (Nat.le_refl _) (by simp)))⟩
  by_cases h5 : k = 5
  · subst h5
    exact ⟨_, _, _, _, _, (fun h => by cases h), fun W hW => value_obj O H b l x s r W (hW.cell hO (by simp)) (hH.kept hW) hr1 hr⟩
  · exact ⟨_, _, _, _, _, (fun h => by omega), fun W _ => value_none k h0 h1 h2 h3 h4 h5 O x s r W⟩
end Go.Proofs.YtmicdbplkfdfnaaGreatDoor
