/- The keys are defined: one step. -/
import Derived.Test.YtmicdbplkfdfnaaGreatDoorCTj6x
import Derived.Test.YtmicdbplkfdfnaaGreatDoorCSz2x
import Derived.Test.YtmicdbplkfdfnaaGreatDoorCSz4x
import Derived.Test.YtmicdbplkfdfnaaGreatDoorCSz6x
import Derived.Test.YtmicdbplkfdfnaaGreatDoorCSz8
import Derived.Test.YtmicdbplkfdfnaaGreatDoorCSq2
import Derived.Test.YtmicdbplkfdfnaaGreatDoorCSq4x
import Derived.Test.YtmicdbplkfdfnaaGreatDoorCSg9x
import Derived.Test.YtmicdbplkfdfnaaGreatDoorCTj1x
import Derived.Test.YtmicdbplkfdfnaaGreatDoorCHo3x
set_option linter.unusedVariables false
namespace Go.Proofs.YtmicdbplkfdfnaaGreatDoor
open Go.RowKit Go.Shelf Go.Maps

theorem pts_len : ∀ l : List Nat, (Un.pts l).length ≤ l.length
  | [] => by simp [Un.pts]
  | [u] => by simp [Un.pts]
  | u :: v :: t => by
    unfold Un.pts
    split
    · have := pts_len t; simp; omega
    · have := pts_len (v :: t); simp at this ⊢; omega
theorem encR_len (r : Nat) : (Un.encR r).length ≤ 4 := by
  unfold Un.encR
  repeat' split
  all_goals simp
theorem txt_size (us : List Nat) : (txt us).size ≤ 4 * us.length := by
  have h1 : (txt us).size = (txtB us).length := by
    unfold txt
    simp [ByteArray.size]
  have h2 : ∀ l : List Nat, (l.flatMap Un.encR).length ≤ 4 * l.length := by
    intro l
    induction l with
    | nil => simp
    | cons a t ih => rw [List.flatMap_cons, List.length_append, List.length_cons]; have := encR_len a; omega
  have h3 := h2 (Un.pts us)
  have h4 := pts_len us
  rw [h1]
  unfold txtB
  omega
/-- What holds while keys are defined. -/
structure Inv1 (arr : Bool) (L : List ByteArray) (P : List Pr) (f : Nat → Option Pr) (c : Nat) : Prop where
  prs : ∀ i p, P[i]? = some p → (arr = true ∧ i = 0) ∨ ∃ j, j < 30 ∧ p = (false, true, true, wN j)
  pls : ∀ k p, f k = some p → k ≤ 4294967294 ∧ ∃ j, j < 30 ∧ p = (false, true, true, wN j)
  len : arr = true → L[0]? = some lenS ∧ ∃ n, n ≤ 4294967295 ∧ P[0]? = some (true, false, false, wN n) ∧ ∀ k p, f k = some p → k + 1 ≤ n
  fin : ∃ ks : List Nat, Rises ks ∧ ks.length ≤ c ∧ ∀ k, k ∈ ks ↔ (f k).isSome = true
theorem rises_more : ∀ (ks : List Nat) (k : Nat), Rises ks → ∃ ks', Rises ks' ∧ ks'.length ≤ ks.length + 1 ∧ ∀ t, t ∈ ks' ↔ t = k ∨ t ∈ ks
  | [], k, _ => ⟨[k], by simp [Rises], by simp, by simp⟩
  | a :: ks, k, h => by
    have h1 : Rises ks := (List.pairwise_cons.1 h).2
    have h2 := (List.pairwise_cons.1 h).1
    rcases Nat.lt_trichotomy k a with hk | hk | hk
    · refine ⟨k :: a :: ks, ?_, by simp, by simp⟩
      refine List.pairwise_cons.2 ⟨?_, h⟩
      intro b hb
      rcases List.mem_cons.1 hb with rfl | hb
      · exact hk
      · have := h2 b hb; omega
    · subst hk
      exact ⟨k :: ks, h, by simp, by simp⟩
    · obtain ⟨ks', r1, r2, r3⟩ := rises_more ks k h1
      refine ⟨a :: ks', ?_, by simp; omega, ?_⟩
      · refine List.pairwise_cons.2 ⟨?_, r1⟩
        intro b hb
        rcases (r3 b).1 hb with rfl | hb
        · exact hk
        · exact h2 b hb
      · intro t
        simp only [List.mem_cons, r3]
        constructor
        · rintro (h | h | h)
          · exact .inr (.inl h)
          · exact .inl h
          · exact .inr (.inr h)
        · rintro (h | h | h)
          · exact .inr (.inl h)
          · exact .inl h
          · exact .inr (.inr h)
theorem Inv1.mono {arr : Bool} {L : List ByteArray} {P : List Pr} {f : Nat → Option Pr} {c c' : Nat} (h : Inv1 arr L P f c) (hc : c ≤ c') : Inv1 arr L P f c' := by
  obtain ⟨ks, h1, h2, h3⟩ := h.fin
  exact ⟨h.prs, h.pls, h.len, ks, h1, by omega, h3⟩
theorem Inv1.new {arr : Bool} {L : List ByteArray} {P : List Pr} {f : Nat → Option Pr} {c : Nat} (h : Inv1 arr L P f c) (hl : P.length = L.length) (nm : ByteArray) (j : Nat) (hj : j < 30) : Inv1 arr (L ++ [nm]) (P ++ [(false, true, true, wN j)]) f (c + 1) := by
  refine { prs := ?_, pls := h.pls, len := ?_, fin := (h.mono (by omega)).fin }
  · intro i p hp
    rw [List.getElem?_append] at hp
    split at hp
    · exact h.prs i p hp
    · rename_i hi
      have : i - P.length = 0 := by
        cases hq : i - P.length with
        | zero => rfl
        | succ n => rw [hq] at hp; simp at hp
      rw [this] at hp
      simp at hp
      exact .inr ⟨j, hj, hp.symm⟩
  · intro ha
    obtain ⟨h1, n, h2, h3, h4⟩ := h.len ha
    refine ⟨?_, n, h2, ?_, h4⟩
    · rw [List.getElem?_append_left (List.getElem?_eq_some_iff.1 h1).1]; exact h1
    · rw [List.getElem?_append_left (List.getElem?_eq_some_iff.1 h3).1]; exact h3
theorem Inv1.set {arr : Bool} {L : List ByteArray} {P : List Pr} {f : Nat → Option Pr} {c : Nat} (h : Inv1 arr L P f c) (i : Nat) (hi : arr = true → i ≠ 0) (j : Nat) (hj : j < 30) : Inv1 arr L (P.set i (false, true, true, wN j)) f (c + 1) := by
  refine { prs := ?_, pls := h.pls, len := ?_, fin := (h.mono (by omega)).fin }
  · intro t p hp
    rw [List.getElem?_set] at hp
    split at hp
    · rename_i e
      split at hp
      · simp at hp; exact .inr ⟨j, hj, hp.symm⟩
      · cases hp
    · exact h.prs t p hp
  · intro ha
    obtain ⟨h1, n, h2, h3, h4⟩ := h.len ha
    refine ⟨h1, n, h2, ?_, h4⟩
    rw [List.getElem?_set, if_neg (hi ha)]
    exact h3
theorem upd_fin {f : Nat → Option Pr} {c : Nat} (h : ∃ ks : List Nat, Rises ks ∧ ks.length ≤ c ∧ ∀ k, k ∈ ks ↔ (f k).isSome = true) (k : Nat) (p : Pr) : ∃ ks : List Nat, Rises ks ∧ ks.length ≤ c + 1 ∧ ∀ t, t ∈ ks ↔ (upd f k p t).isSome = true := by
  obtain ⟨ks, h1, h2, h3⟩ := h
  obtain ⟨ks', r1, r2, r3⟩ := rises_more ks k h1
  refine ⟨ks', r1, by omega, ?_⟩
  intro t
  rw [r3, h3]
  unfold upd
  by_cases e : t = k
  · simp [e]
  · simp [e]
theorem Inv1.place {L : List ByteArray} {P : List Pr} {f : Nat → Option Pr} {c : Nat} (h : Inv1 false L P f c) (k : Nat) (hk : k ≤ 4294967294) (j : Nat) (hj : j < 30) : Inv1 false L P (upd f k (false, true, true, wN j)) (c + 1) := by
  refine { prs := h.prs, pls := ?_, len := (fun h => by cases h), fin := upd_fin h.fin k _ }
  intro t p hp
  unfold upd at hp
  split at hp
  · rename_i e
    simp at hp
    exact ⟨by omega, j, hj, hp.symm⟩
  · exact h.pls t p hp
theorem Inv1.placeA {L : List ByteArray} {P : List Pr} {f : Nat → Option Pr} {c : Nat} (h : Inv1 true L P f c) (n : Nat) (hn : P[0]? = some (true, false, false, wN n)) (hn2 : n ≤ 4294967295) (hlt : ∀ k p, f k = some p → k + 1 ≤ n) (k : Nat) (hk : k ≤ 4294967294) (j : Nat) (hj : j < 30) : Inv1 true L (P.set 0 (true, false, false, wN (max n (k + 1)))) (upd f k (false, true, true, wN j)) (c + 1) := by
  refine { prs := ?_, pls := ?_, len := ?_, fin := upd_fin h.fin k _ }
  · intro i p hp
    rw [List.getElem?_set] at hp
    split at hp
    · rename_i e
      exact .inl ⟨rfl, e.symm⟩
    · exact h.prs i p hp
  · intro t p hp
    unfold upd at hp
    split at hp
    · rename_i e
      simp at hp
      exact ⟨by omega, j, hj, hp.symm⟩
    · exact h.pls t p hp
  · intro _
    obtain ⟨h1, _⟩ := h.len rfl
    refine ⟨h1, max n (k + 1), by omega, ?_, ?_⟩
    · rw [List.getElem?_set, if_pos rfl, if_pos (List.getElem?_eq_some_iff.1 hn).1]
    · intro t p hp
      unfold upd at hp
      split at hp
      · rename_i e
        omega
      · have := hlt t p hp
        omega
theorem Nxt.from {w W w' : World} {n0 O H b : Nat} {F F' : Fp} (hW : Kx [] w W) (h : Nxt W O H b F w' F') : Nxt w O H b F w' F' :=
  ⟨(hW.mono (fun j hj => by cases hj)).trans h.1 (fun j hj => .inl hj), fun i hi => (h.2.1 i hi).imp id (fun h2 => Nat.le_trans hW.size h2), h.2.2⟩
theorem with_open (q0 : Bool) (hq : q0 = false) (q1 q2 hw : Bool) (q4 : Int) (q5 x : Nat) (q6 : ByteArray) (q7 : Option Addr) (w : World) :
    Calls Tryz.prog 69 #[.agg #[.bool q0, .bool q1, .bool q2, .bool false, .int .i64 q4, .float .f64 q5, .string q6, .pointer q7, .pointer none, .pointer none], .agg #[.bool false, .bool true, .bool true, .bool false, .int .i64 3, .float .f64 x, .string ⟨#[]⟩, .pointer none, .pointer none, .pointer none, .bool true, .bool false, .bool false, .bool hw, .bool true, .bool true]] w fun e w' =>
      e = .returned (.agg #[.bool false, .bool true, .bool true, .bool false, .int .i64 3, .float .f64 x, .string ⟨#[]⟩, .pointer none, .pointer none, .pointer none]) ∧ Kx [] w w' := by
  subst hq
  cases hw
  · exact with_told false q1 q2 false true true true false true true q4 3 q5 x q6 ⟨#[]⟩ q7 none w
  · exact with_told false q1 q2 false true true true true true true q4 3 q5 x q6 ⟨#[]⟩ q7 none w
end Go.Proofs.YtmicdbplkfdfnaaGreatDoor
set_option linter.unusedVariables false
namespace Go.Proofs.YtmicdbplkfdfnaaGreatDoor
open Go.RowKit Go.Shelf Go.Maps

theorem name_ne {nm : ByteArray} (h : nm ≠ lenS) : (nm.toList == [108, 101, 110, 103, 116, 104]) = false := by
  have e : lenS.toList = [108, 101, 110, 103, 116, 104] := by decide +kernel
  have hb : ∀ l : List UInt8, nm.toList = l → (nm.toList == l) = true := fun l hl => by rw [hl]; simp
  cases hc : (nm.toList == [108, 101, 110, 103, 116, 104]) with
  | false => rfl
  | true =>
    exfalso
    have h1 : nm.toList = lenS.toList := by rw [e]; simpa using hc
    have h2 : (nm == lenS) = true := by rw [beq_toListBytes, h1]; simp
    apply h
    cases nm with | mk d => ?_
    have h3 : d = lenS.data := by
      have : (({ data := d } : ByteArray) == lenS) = (d == lenS.data) := rfl
      rw [this] at h2
      simpa using h2
    rw [h3]
/-- What stands behind a key that was defined. -/
def Def1 (w : World) (n0 O H b : Nat) (arr : Bool) (L : List ByteArray) (F : Fp) (c : Nat) (w' : World) : Prop :=
  ∃ L' P' f' F', FSt w' n0 O H b arr false L' P' f' F' ∧ Nxt w O H b F w' F' ∧ F'.al = false ∧ Inv1 arr L' P' f' (c + 1) ∧ L'.length ≤ L.length + 1
theorem Def1.drew {w : World} {n0 O H b : Nat} {arr : Bool} {L : List ByteArray} {F : Fp} {c : Nat} {w' : World} (h : Def1 w n0 O H b arr L F c w') (q : Nat) : Def1 w n0 O H b arr L F c (w'.drewN q) := by
  obtain ⟨L', P', f', F', h1, h2, h3⟩ := h
  exact ⟨L', P', f', F', h1.kept0 (Kx.drewN _ _ _), ⟨h2.1.drw _, h2.2⟩, h3⟩
theorem FSt.lenAt {w : World} {n0 O H b : Nat} {fx : Bool} {L : List ByteArray} {P : List Pr} {f : Nat → Option Pr} {F : Fp} (h : FSt w n0 O H b true fx L P f F) (hpos : 0 < P.length) :
    Calls Tryz.prog 70 #[.pointer (some ⟨b, 0, none⟩)] w fun e w' => (∃ g, e = .returned (.pointer (some ⟨g, 4, none⟩))) ∧ w' = w := by
  obtain ⟨g, cap, e⟩ := ownsRow_pos hpos h.prs
  have hl := h.len
  have hb := h.bL
  exact (length_arr b g P.length cap w (cell_at h.obj 0 rfl) (by rw [cell_at h.obj 6 rfl]; exact congrArg some e) hpos (by omega)).mono fun e w' h => ⟨⟨g, h.1⟩, h.2⟩
theorem FSt.def1 {w : World} {n0 O H b : Nat} {arr : Bool} {L : List ByteArray} {P : List Pr} {f : Nat → Option Pr} {F : Fp} {c : Nat} (h : FSt w n0 O H b arr false L P f F) (hal : F.al = false) (I : Inv1 arr L P f c) (us : List Nat) (hu : ∀ u ∈ us, u < 65536) (hsz : (txt us).size ≤ 2000000) (hlen : arr = true → txt us ≠ lenS) (hw : Bool) (j : Nat) (hj : j < 30)
    (hL : L.length + 1 ≤ 100) (hq : F.q + 1 ≤ 200) (hm : F.m + 1 ≤ 10000) :
    Calls Tryz.prog 41 #[.pointer (some ⟨b, 0, none⟩), .agg #[.string (keyN us), .int .u32 (keyP us), .bool (keyI us)], .agg #[.bool false, .bool true, .bool true, .bool false, .int .i64 3, .float .f64 (wN j), .string ⟨#[]⟩, .pointer none, .pointer none, .pointer none, .bool true, .bool false, .bool false, .bool hw, .bool true, .bool true]] w fun e w' => e = .returned .nilIface ∧ Def1 w n0 O H b arr L F c w' := by
  have hmx : (txt us).size ≤ maxLen := by unfold maxLen; omega
  have hb0 : w.cell? ⟨b, 0, none⟩ = some (.string (clsS arr)) := cell_at h.obj 0 rfl
  have hT : ∀ i ∈ F.blocks O H b, i < w.heap.size := fun i hi => (h.lt i hi).2
  have fin : ∀ (e : Ending) (w' : World), (e = .returned .nilIface ∧ ∃ W q, Def1 w n0 O H b arr L F c W ∧ w' = W.drewN q) → e = .returned .nilIface ∧ Def1 w n0 O H b arr L F c w' := by
    rintro e w' ⟨h1, W, q, h2, rfl⟩
    exact ⟨h1, h2.drew q⟩
  have c25 := h.own us hmx
  by_cases hx : ixOf us < 0
  · obtain ⟨k1, k2, k3⟩ := keyN_name hx
    have hok : NameOK (txt us) := ⟨us, hu, rfl, hx⟩
    rw [k1, k2, k3] at c25 ⊢
    rw [look_name hx] at c25
    cases hp : pf L (txt us) with
    | none =>
      rw [hp] at c25
      have cS : ∀ W, Kx [] w W → Calls Tryz.prog 59 #[.pointer (some ⟨b, 0, none⟩), .agg #[.string (txt us), .int .u32 0, .bool false], .agg #[.bool false, .bool true, .bool true, .bool false, .int .i64 3, .float .f64 (wN j), .string ⟨#[]⟩, .pointer none, .pointer none, .pointer none]] W fun e w' => (∃ u, e = .returned u) ∧ Kx (F.blocks O H b) W w' ∧ Def1 w n0 O H b arr L F c w' := fun W hW =>
        (h.setNew (txt us) hok hsz hp (false, true, true, wN j) hal hL hq W hW).mono fun e w' h2 => by
          obtain ⟨g1, g2, F', g3, g4, g5⟩ := h2
          exact ⟨g1, g2, _, _, _, F', g3, g4, g5, I.new h.len _ j hj, by simp⟩
      cases arr with
      | false =>
        exact (define_newN b (clsS false) (txt us) 0 false true true true hw true true 3 (wN j) ⟨#[]⟩ none false false false false true true 0 3 0 (wN j) ⟨#[]⟩ ⟨#[]⟩ none none (F.blocks O H b) (Def1 w n0 O H b false L F c) w hb0 (clsS_is false) hT c25
          (fun W hW => (takes_no b (clsS false) false (txt us) 0 false W (hW.cell hb0 (by simp)) (clsS_is false) (cell_at (hW.get h.obj (by simp)) 2 rfl) (lt_get (hW.get h.obj (by simp)))))
          (fun W hW => with_open false rfl false false hw 0 0 (wN j) ⟨#[]⟩ none W) cS
          (fun W hR => by obtain ⟨_, _, _, _, g1, _⟩ := hR; exact length_no b (clsS false) W (cell_at g1.obj 0 rfl) (clsS_is false))).mono fin
      | true =>
        obtain ⟨i1, n, i2, i3, i4⟩ := I.len rfl
        have hpos : 0 < P.length := (List.getElem?_eq_some_iff.1 i3).1
        obtain ⟨g, cap, e⟩ := ownsRow_pos hpos h.prs
        have hprs := h.prs
        rw [e] at hprs
        have hl := h.len
        have hne := hlen rfl
        exact (define_newNA b (clsS true) (txt us) 0 false true true true hw true true 3 (wN j) ⟨#[]⟩ none false false false false true true 0 3 0 (wN j) ⟨#[]⟩ ⟨#[]⟩ none none (F.blocks O H b) (Def1 w n0 O H b true L F c) w hb0 (clsS_is true) (name_ne hne) hT c25
          (fun W hW => (takes_arr b g P.length cap (txt us) 0 false true _ (wN n) _ W (hW.cell hb0 (by simp)) (by rw [cell_at (hW.get h.obj (by simp)) 6 rfl]; exact congrArg some e) hpos (by omega) (cell_at (hW.get h.obj (by simp)) 2 rfl)
            (hW.cell (prs_cells hprs i3 0 (by omega) _ rfl) (by simp)) (hW.cell (prs_cells hprs i3 5 (by omega) _ rfl) (by simp)) (fun W2 => conv65 0 W2) rfl).mono fun e w' h => by simpa using h)
          (fun W hW => with_open false rfl false false hw 0 0 (wN j) ⟨#[]⟩ none W) cS
          (fun W hR => by
            obtain ⟨L', P', f', F', g1, g2, g3, g4, g5⟩ := hR
            obtain ⟨_, _, _, j3, _⟩ := g4.len rfl
            exact g1.lenAt (List.getElem?_eq_some_iff.1 j3).1)).mono fin
    | some i =>
      have hLi := (pf_get _ L rfl h.nd _ i).1 hp
      have hil := (List.getElem?_eq_some_iff.1 hLi).1
      obtain ⟨p, hPi⟩ : ∃ p, P[i]? = some p := ⟨_, List.getElem?_eq_getElem (by rw [h.len]; exact hil)⟩
      have hi0 : arr = true → i ≠ 0 := by
        intro ha e
        subst e
        rw [(I.len ha).1] at hLi
        exact hlen ha (Option.some.inj hLi).symm
      obtain ⟨j0, hj0, rfl⟩ : ∃ j0, j0 < 30 ∧ p = (false, true, true, wN j0) := by
        rcases I.prs i p hPi with ⟨h1, h2⟩ | h1
        · exact absurd h2 (hi0 h1)
        · exact h1
      rw [hp] at c25
      simp only [Option.bind_some, hPi] at c25
      have cS : ∀ W, Kx [] w W → Calls Tryz.prog 59 #[.pointer (some ⟨b, 0, none⟩), .agg #[.string (txt us), .int .u32 0, .bool false], .agg #[.bool false, .bool true, .bool true, .bool false, .int .i64 3, .float .f64 (wN j), .string ⟨#[]⟩, .pointer none, .pointer none, .pointer none]] W fun e w' => (∃ u, e = .returned u) ∧ Kx (F.blocks O H b) W w' ∧ Def1 w n0 O H b arr L F c w' := fun W hW =>
        (h.setSame (txt us) hmx i hp false true true (wN j0) (wN j) hPi W hW).mono fun e w' h2 => by
          obtain ⟨g1, g2, g3, g4⟩ := h2
          exact ⟨g1, g2, _, _, _, F, g3, g4, hal, I.set i hi0 j hj, by simp⟩
      have cR := fun W (hW : Kx [] w W) => refuses_not (.bool false) (.bool true) (.bool false) (.int .i64 3) (.float .f64 (wN j0)) (.string ⟨#[]⟩) (.pointer none) (.pointer none) (.pointer none) (.bool false) (.bool true) (.bool true) (.bool false) (.int .i64 3) (.float .f64 (wN j)) (.string ⟨#[]⟩) (.pointer none) (.pointer none) (.pointer none) (.bool true) (.bool false) (.bool false) (.bool hw) (.bool true) (.bool true) W
      cases arr with
      | false =>
        exact (define_hasN b (clsS false) (txt us) 0 false true true true hw true true 3 (wN j) ⟨#[]⟩ none false true true false true true 3 3 (wN j0) (wN j) ⟨#[]⟩ ⟨#[]⟩ none none (F.blocks O H b) (Def1 w n0 O H b false L F c) w hb0 (clsS_is false) hT c25 cR
          (fun W hW => with_open false rfl true true hw 3 (wN j0) (wN j) ⟨#[]⟩ none W) cS
          (fun W hR => by obtain ⟨_, _, _, _, g1, _⟩ := hR; exact length_no b (clsS false) W (cell_at g1.obj 0 rfl) (clsS_is false))).mono fin
      | true =>
        exact (define_hasNA b (clsS true) (txt us) 0 false true true true hw true true 3 (wN j) ⟨#[]⟩ none false true true false true true 3 3 (wN j0) (wN j) ⟨#[]⟩ ⟨#[]⟩ none none (F.blocks O H b) (Def1 w n0 O H b true L F c) w hb0 (clsS_is true) (name_ne (hlen rfl)) hT c25 cR
          (fun W hW => with_open false rfl true true hw 3 (wN j0) (wN j) ⟨#[]⟩ none W) cS
          (fun W hR => by
            obtain ⟨L', P', f', F', g1, g2, g3, g4, g5⟩ := hR
            obtain ⟨_, _, _, j3, _⟩ := g4.len rfl
            exact g1.lenAt (List.getElem?_eq_some_iff.1 j3).1)).mono fin
  · obtain ⟨k, hk, hkb⟩ := ixOf_range us hx
    obtain ⟨k1, k2, k3⟩ := keyN_place hk
    rw [k1, k2, k3] at c25 ⊢
    rw [look_place hk] at c25
    have cU : ∀ W, Kx [] w W → Calls Tryz.prog 45 #[.pointer (some ⟨b, 0, none⟩)] W fun e w' => e = .returned (.int .i64 0) ∧ ∃ q, w' = W.drewN q := fun W hW => (units_zero b W (cell_at (hW.get h.obj (by simp)) 3 rfl)).mono fun e w' h => ⟨h.1, 0, h.2⟩
    cases arr with
    | false =>
      have cS : ∀ W, Kx [] w W → Calls Tryz.prog 59 #[.pointer (some ⟨b, 0, none⟩), .agg #[.string ⟨#[]⟩, .int .u32 (k : Int), .bool true], .agg #[.bool false, .bool true, .bool true, .bool false, .int .i64 3, .float .f64 (wN j), .string ⟨#[]⟩, .pointer none, .pointer none, .pointer none]] W fun e w' => (∃ u, e = .returned u) ∧ Kx (F.blocks O H b) W w' ∧ Def1 w n0 O H b false L F c w' := fun W hW =>
        (h.setPlace k (by omega) true true (wN j) hm W hW).mono fun e w' h2 => by
          obtain ⟨g1, g2, F', g3, g4, g5, g6⟩ := h2
          exact ⟨g1, g2, _, _, _, F', g3, g4, by rw [g5]; exact hal, I.place k hkb j hj, by simp⟩
      have cL : ∀ W, Def1 w n0 O H b false L F c W → Calls Tryz.prog 70 #[.pointer (some ⟨b, 0, none⟩)] W fun e w' => e = .returned (.pointer none) ∧ w' = W := fun W hR => by
        obtain ⟨_, _, _, _, g1, _⟩ := hR
        exact length_no b (clsS false) W (cell_at g1.obj 0 rfl) (clsS_is false)
      cases hp : f k with
      | none =>
        rw [hp] at c25
        exact (define_newP b (clsS false) ⟨#[]⟩ (k : Int) false true true true hw true true 3 (wN j) ⟨#[]⟩ none false false false false true true 0 3 0 (wN j) ⟨#[]⟩ ⟨#[]⟩ none none (F.blocks O H b) (Def1 w n0 O H b false L F c) w hb0 (clsS_is false) hT c25
          (fun W hW => (takes_no b (clsS false) false ⟨#[]⟩ (k : Int) true W (hW.cell hb0 (by simp)) (clsS_is false) (cell_at (hW.get h.obj (by simp)) 2 rfl) (lt_get (hW.get h.obj (by simp))))) cU
          (fun W hW => with_open false rfl false false hw 0 0 (wN j) ⟨#[]⟩ none W) cS cL (by omega) (by omega)).mono fin
      | some p =>
        rw [hp] at c25
        obtain ⟨_, j0, hj0, rfl⟩ := I.pls k p hp
        exact (define_hasP b (clsS false) ⟨#[]⟩ (k : Int) false true true true hw true true 3 (wN j) ⟨#[]⟩ none false true true false true true 3 3 (wN j0) (wN j) ⟨#[]⟩ ⟨#[]⟩ none none (F.blocks O H b) (Def1 w n0 O H b false L F c) w hb0 (clsS_is false) hT c25
          (fun W (hW : Kx [] w W) => refuses_not (.bool false) (.bool true) (.bool false) (.int .i64 3) (.float .f64 (wN j0)) (.string ⟨#[]⟩) (.pointer none) (.pointer none) (.pointer none) (.bool false) (.bool true) (.bool true) (.bool false) (.int .i64 3) (.float .f64 (wN j)) (.string ⟨#[]⟩) (.pointer none) (.pointer none) (.pointer none) (.bool true) (.bool false) (.bool false) (.bool hw) (.bool true) (.bool true) W) cU
          (fun W hW => with_open false rfl true true hw 3 (wN j0) (wN j) ⟨#[]⟩ none W) cS cL (by omega) (by omega)).mono fin
    | true =>
      obtain ⟨i1, n, i2, i3, i4⟩ := I.len rfl
      have hpos : 0 < P.length := (List.getElem?_eq_some_iff.1 i3).1
      obtain ⟨g, cap, e⟩ := ownsRow_pos hpos h.prs
      have hprs := h.prs
      rw [e] at hprs
      have hl := h.len
      have hbl := h.bL
      -- what set leaves, ahead of the length
      let R : World → Prop := fun W => ∃ F', FSt W n0 O H b true false L P (upd f k (false, true, true, wN j)) F' ∧ Nxt w O H b F W F' ∧ F'.al = F.al ∧ F'.nv = F.nv
      have cS : ∀ W, Kx [] w W → Calls Tryz.prog 59 #[.pointer (some ⟨b, 0, none⟩), .agg #[.string ⟨#[]⟩, .int .u32 (k : Int), .bool true], .agg #[.bool false, .bool true, .bool true, .bool false, .int .i64 3, .float .f64 (wN j), .string ⟨#[]⟩, .pointer none, .pointer none, .pointer none]] W fun e w' => (∃ u, e = .returned u) ∧ Kx (F.blocks O H b) W w' ∧ R w' := fun W hW => h.setPlace k (by omega) true true (wN j) hm W hW
      have cL : ∀ W, R W → Calls Tryz.prog 70 #[.pointer (some ⟨b, 0, none⟩)] W fun e w' => e = .returned (.pointer (some ⟨g, 4, none⟩)) ∧ w' = W := fun W hR => by
        obtain ⟨F', g1, g2, g3, g4⟩ := hR
        exact length_arr b g P.length cap W (cell_at g1.obj 0 rfl) (by rw [cell_at g1.obj 6 rfl]; exact congrArg some (g4.trans e)) hpos (by omega)
      have hxc : ∀ W, R W → W.cell? ⟨g, 5, none⟩ = some (.float .f64 (wN n)) ∧ W.frozen? ⟨g, 5, none⟩ = false := fun W hR => by
        obtain ⟨F', g1, g2, g3, g4⟩ := hR
        have hp1 := g1.prs
        rw [g4, e] at hp1
        obtain ⟨cur, hG, _⟩ := prs_cur hp1 i3 hpos
        exact ⟨by have := prs_cells hp1 i3 5 (by omega) _ rfl; simpa using this, fr_all hG 5⟩
      have finA : ∀ (e : Ending) (w' : World), (e = .returned .nilIface ∧ ∃ W q, R W ∧ w' = (W.drewN q).setCell ⟨g, 5, none⟩ (.float .f64 (wN (max n (k + 1))))) → e = .returned .nilIface ∧ Def1 w n0 O H b true L F c w' := by
        rintro e2 w' ⟨h1, W, q, ⟨F', g1, g2, g3, g4⟩, rfl⟩
        have g1' := g1.kept0 (Kx.drewN [] W q)
        obtain ⟨s1, s2⟩ := g1'.lenNum (g4.trans e) true false false (wN n) (wN (max n (k + 1))) i3
        refine ⟨h1, L, _, _, F', s1, ⟨?_, g2.2⟩, by rw [g3]; exact hal, I.placeA n i3 i2 i4 k hkb j hj, by simp⟩
        exact (g2.1.drw q).trans s2 (fun i hi => g2.2.1 i hi)
      cases hp : f k with
      | none =>
        rw [hp] at c25
        exact (define_newPA b (clsS true) ⟨#[]⟩ (k : Int) false true true true hw true true 3 (wN j) ⟨#[]⟩ none false false false false true true 0 3 0 (wN j) ⟨#[]⟩ ⟨#[]⟩ none none (F.blocks O H b) R g (wN n) (wN k) (wN (k + 1)) (wN (max n (k + 1))) w hb0 (clsS_is true) (by decide +kernel) hT c25
          (fun W hW => (takes_arr b g P.length cap ⟨#[]⟩ (k : Int) true true _ (wN n) _ W (hW.cell hb0 (by simp)) (by rw [cell_at (hW.get h.obj (by simp)) 6 rfl]; exact congrArg some e) hpos (by omega) (cell_at (hW.get h.obj (by simp)) 2 rfl)
            (hW.cell (prs_cells hprs i3 0 (by omega) _ rfl) (by simp)) (hW.cell (prs_cells hprs i3 5 (by omega) _ rfl) (by simp)) (fun W2 => conv65 k W2) rfl).mono fun e w' h => by simpa using h) cU
          (fun W hW => with_open false rfl false false hw 0 0 (wN j) ⟨#[]⟩ none W) cS cL (by omega) (by omega) hxc (conv65 k) (plus1 k (by omega)) (max_wN n (k + 1) (by omega) (by omega))).mono finA
      | some p =>
        rw [hp] at c25
        obtain ⟨_, j0, hj0, rfl⟩ := I.pls k p hp
        exact (define_hasPA b (clsS true) ⟨#[]⟩ (k : Int) false true true true hw true true 3 (wN j) ⟨#[]⟩ none false true true false true true 3 3 (wN j0) (wN j) ⟨#[]⟩ ⟨#[]⟩ none none (F.blocks O H b) R g (wN n) (wN k) (wN (k + 1)) (wN (max n (k + 1))) w hb0 (clsS_is true) (by decide +kernel) hT c25
          (fun W (hW : Kx [] w W) => refuses_not (.bool false) (.bool true) (.bool false) (.int .i64 3) (.float .f64 (wN j0)) (.string ⟨#[]⟩) (.pointer none) (.pointer none) (.pointer none) (.bool false) (.bool true) (.bool true) (.bool false) (.int .i64 3) (.float .f64 (wN j)) (.string ⟨#[]⟩) (.pointer none) (.pointer none) (.pointer none) (.bool true) (.bool false) (.bool false) (.bool hw) (.bool true) (.bool true) W) cU
          (fun W hW => with_open false rfl true true hw 3 (wN j0) (wN j) ⟨#[]⟩ none W) cS cL (by omega) (by omega) hxc (conv65 k) (plus1 k (by omega)) (max_wN n (k + 1) (by omega) (by omega))).mono finA
end Go.Proofs.YtmicdbplkfdfnaaGreatDoor
set_option linter.unusedVariables false
namespace Go.Proofs.YtmicdbplkfdfnaaGreatDoor
open Go.RowKit Go.Shelf Go.Maps

attribute [local go_sem] run_store_flt
set_option maxRecDepth 100000 in
set_option maxHeartbeats 2000000 in
theorem value_num (O x : Nat) (tx : ByteArray) (rf : Int) (w : World) :
    Calls Tryz.prog 63 #[.pointer (some ⟨O, 0, none⟩), .agg #[.int .i64 3, .float .f64 x, .string tx, .int .i64 rf]] w fun e w' => e = .returned (.tuple #[.agg #[.int .i64 3, .float .f64 x, .string ⟨#[]⟩, .pointer none], .bool true]) ∧ Kx [] w w' := by
  go_enter Tryz.func63, Tryz.ntmps63
  go_wp2
  refine bodyPost_ret (results_row_tmp rfl _ _ (w.heap.size + 1) 73 _ (0, 0) _ rfl (heap_old (heap_alloc2_new _ _ _) _) Tryz.underlying73 rfl (by kernel_rfl) _ rfl) rfl ?_
  exact ⟨rfl, ((Kx.alloc _ _ _).alc _).alc _⟩

set_option maxRecDepth 100000 in
set_option maxHeartbeats 2000000 in
theorem value_txt (O x : Nat) (tx : ByteArray) (htx : tx.size ≤ 2000000) (rf : Int) (w : World) (hT : Lib.Utf8Tabs 2 3 w) :
    Calls Tryz.prog 63 #[.pointer (some ⟨O, 0, none⟩), .agg #[.int .i64 4, .float .f64 x, .string tx, .int .i64 rf]] w fun e w' => e = .returned (.tuple #[.agg #[.int .i64 4, .float .f64 0, .string (txt (unitsS tx)), .pointer none], .bool true]) ∧ Kx [] w w' := by
  obtain ⟨W0, hW0⟩ : ∃ W0, W0 = ((w.alloc (Obj.cells #[.int .i64 4, .float .f64 x, .string tx, .int .i64 rf] 32)).alloc (Obj.cells #[.int .i64 0, .float .f64 0, .string ⟨#[]⟩, .pointer none] 73)).alloc (Obj.cells #[.int .i64 4, .float .f64 0, .string ⟨#[]⟩, .pointer none] 73) := ⟨_, rfl⟩
  have hk : Kx [] w W0 := by rw [hW0]; exact (show Kx [] w _ from ((Kx.alloc _ _ _).alc _).alc _)
  have hR : W0.heap[w.heap.size + 1]? = some (Obj.cells #[.int .i64 0, .float .f64 0, .string ⟨#[]⟩, .pointer none] 73 (0, 0)) := by rw [hW0]; exact heap_old (heap_alloc2_new _ _ _) _
  have hV : W0.heap[w.heap.size + 1 + 1]? = some (Obj.cells #[.int .i64 4, .float .f64 0, .string ⟨#[]⟩, .pointer none] 73 (0, 0)) := by
    have e : w.heap.size + 1 + 1 = ((w.alloc (Obj.cells #[.int .i64 4, .float .f64 x, .string tx, .int .i64 rf] 32)).alloc (Obj.cells #[.int .i64 0, .float .f64 0, .string ⟨#[]⟩, .pointer none] 73)).heap.size := by simp
    rw [hW0, e]; exact heap_alloc_new _ _
  have c := textOf_any tx htx W0 (tabs_below hT (hk.below (Nat.le_refl _) (by simp)))
  generalize txt (unitsS tx) = D at *
  have C := (show Hid (∀ _ : Unit, _) from fun _ : Unit => c)
  have HR := (show Hid _ from hR)
  have HV := (show Hid _ from hV)
  have HK := (show Hid _ from hk)
  clear hT c hR hV hk
  go_enter Tryz.func63, Tryz.ntmps63
  go_wp2_with (first | (go_at_call 53; fail))
  rw [← hW0]
  clear hW0
  refine (C.out ()).mono ?_
  rintro e w1 ⟨rfl, hb⟩
  have hk1 : Kx [] W0 w1 := Kx.ofBelow hb []
  have hR1 : w1.heap[w.heap.size + 1]? = some (Obj.cells #[.int .i64 0, .float .f64 0, .string ⟨#[]⟩, .pointer none] 73 (0, 0)) := hk1.get HR.out (by simp)
  have hV1 : w1.heap[w.heap.size + 1 + 1]? = some (Obj.cells #[.int .i64 4, .float .f64 0, .string ⟨#[]⟩, .pointer none] 73 (0, 0)) := hk1.get HV.out (by simp)
  have HK1 : Hid (Kx [] w w1) := (show Kx [] w w1 from HK.out.same hk1)
  have cR0 : w1.cell? ⟨w.heap.size + 1, 0, none⟩ = some (.int .i64 0) := by simp [World.cell?, hR1]
  have fR0 : w1.frozen? ⟨w.heap.size + 1, 0, none⟩ = false := by simp [World.frozen?, hR1]
  have cR1 : w1.cell? ⟨w.heap.size + 1, 1, none⟩ = some (.float .f64 0) := by simp [World.cell?, hR1]
  have fR1 : w1.frozen? ⟨w.heap.size + 1, 1, none⟩ = false := by simp [World.frozen?, hR1]
  have cR2 : w1.cell? ⟨w.heap.size + 1, 2, none⟩ = some (.string ⟨#[]⟩) := by simp [World.cell?, hR1]
  have fR2 : w1.frozen? ⟨w.heap.size + 1, 2, none⟩ = false := by simp [World.frozen?, hR1]
  have cR3 : w1.cell? ⟨w.heap.size + 1, 3, none⟩ = some (.pointer none) := by simp [World.cell?, hR1]
  have fR3 : w1.frozen? ⟨w.heap.size + 1, 3, none⟩ = false := by simp [World.frozen?, hR1]
  have cV0 : w1.cell? ⟨w.heap.size + 1 + 1, 0, none⟩ = some (.int .i64 4) := by simp [World.cell?, hV1]
  have fV0 : w1.frozen? ⟨w.heap.size + 1 + 1, 0, none⟩ = false := by simp [World.frozen?, hV1]
  have cV1 : w1.cell? ⟨w.heap.size + 1 + 1, 1, none⟩ = some (.float .f64 0) := by simp [World.cell?, hV1]
  have fV1 : w1.frozen? ⟨w.heap.size + 1 + 1, 1, none⟩ = false := by simp [World.frozen?, hV1]
  have cV2 : w1.cell? ⟨w.heap.size + 1 + 1, 2, none⟩ = some (.string ⟨#[]⟩) := by simp [World.cell?, hV1]
  have fV2 : w1.frozen? ⟨w.heap.size + 1 + 1, 2, none⟩ = false := by simp [World.frozen?, hV1]
  have cV3 : w1.cell? ⟨w.heap.size + 1 + 1, 3, none⟩ = some (.pointer none) := by simp [World.cell?, hV1]
  have fV3 : w1.frozen? ⟨w.heap.size + 1 + 1, 3, none⟩ = false := by simp [World.frozen?, hV1]
  clear HR HV HK C hk1 hb
  have HR := (show Hid _ from hR1)
  clear hR1 hV1
  go_wp2
  have r0 := heap_setCell_ne HR.out (show w.heap.size + 1 + 1 ≠ w.heap.size + 1 by omega) 2 (.string D)
  have r1 := heap_set_at (C' := #[.int .i64 4, .float .f64 0, .string ⟨#[]⟩, .pointer none]) r0 0 (.int .i64 4) rfl
  have r2 := heap_set_at (C' := #[.int .i64 4, .float .f64 0, .string ⟨#[]⟩, .pointer none]) r1 1 (.float .f64 0) rfl
  have r3 := heap_set_at (C' := #[.int .i64 4, .float .f64 0, .string D, .pointer none]) r2 2 (.string D) rfl
  have r4 := heap_set_at (C' := #[.int .i64 4, .float .f64 0, .string D, .pointer none]) r3 3 (.pointer none) rfl
  clear r0 r1 r2 r3
  refine bodyPost_ret (results_row_tmp rfl _ _ (w.heap.size + 1) 73 _ (0, 0) _ rfl r4 Tryz.underlying73 rfl (by kernel_rfl) _ rfl) rfl ?_
  exact ⟨rfl, HK1.out.trans ((((((Kx.refl [w.heap.size + 1, w.heap.size + 1 + 1] w1).set (by simp) _).set (by simp) _).set (by simp) _).set (by simp) _).set (by simp) _) (fun i hi => .inr (by simp at hi; omega))⟩
end Go.Proofs.YtmicdbplkfdfnaaGreatDoor
