/- The walks of atof64 and both ParseFloats. -/
import Derived.Test.YtellndmbllmjgaaGreatDoorCPfA
import Derived.Test.YtellndmbllmjgaaGreatDoorCAe1
import Derived.Test.YtellndmbllmjgaaGreatDoorCRf1
set_option linter.unusedVariables false
namespace Go.Proofs.YtellndmbllmjgaaGreatDoor
open Go.RowKit Go.Shelf Go.Sort Fs Fl

/-- What reading needs of the world. -/
structure RLaid (w : World) : Prop where
  laid : Laid w
  p10s : P10s w
  opt : w.cell? ⟨7, 0, none⟩ = some (.bool true)
  err : ∃ te pe, w.cell? ⟨9, 0, none⟩ = some (.iface te pe)
theorem below_cell {w w' : World} (hb : Below w.heap.size w w') {b j : Nat} {v : Value} (h : w.cell? ⟨b, j, none⟩ = some v) : w'.cell? ⟨b, j, none⟩ = some v := (hb.cell (p := ⟨b, j, none⟩) (cell_block h)).trans h
theorem RLaid.below {w w' : World} (h : RLaid w) (hb : Below w.heap.size w w') : RLaid w' := by
  obtain ⟨h1, b, off, cap, h2, h3⟩ := h.p10s
  obtain ⟨te, pe, h4⟩ := h.err
  exact ⟨h.laid.below hb, ⟨below_cell hb h1, b, off, cap, below_cell hb h2, fun k hk => below_cell hb (h3 k hk)⟩, below_cell hb h.opt, te, pe, below_cell hb h4⟩
set_option maxRecDepth 100000 in
set_option maxHeartbeats 1000000 in
theorem atof_any (S : ByteArray) (D X : List Nat) (sg : List Nat) (n : Int) (j : Nat) (hs : S.size = 3 + D.length + sg.length + X.length) (hat : ∀ k c, (48 :: 46 :: (D ++ 101 :: (sg ++ X)))[k]? = some c → ∀ h : k < S.size, (S[k]'h).toNat = c)
    (hD : Dig D) (hD0 : 0 < D.length) (hDl : D.length ≤ 40) (hfirst : D[0]? ≠ some 48) (hz : ∀ k c, 19 ≤ k → D[k]? = some c → c = 48) (hX : Dig X) (hX0 : 0 < X.length) (hX3 : X.length ≤ 3) (hsg : (sg = [] ∧ n = (vD X : Int)) ∨ (sg = [45] ∧ n = -(vD X : Int)))
    (hj : n - (min D.length 19 : Nat) = (j : Int) - 400) (hj1 : 55 ≤ j) (hj2 : j ≤ 710) (w : World) (hL : RLaid w) :
    Calls Tryz.prog 284 #[.string S] w fun r w' => ∃ R err, DecNear (vD (D.take 19)) j R ∧ r = .returned (.tuple #[.float .f64 (min R 9218868437227405312), .int .i64 (S.size : Int), err]) ∧ (err = .nilIface ∨ err = .iface 182 (.int .i64 1)) ∧ Below w.heap.size w w' := by
  have cs := special_no S (by omega) (hat 0 48 rfl) w
  have cr := readFloat_walk S D X sg n hs hat hD hD0 hDl hfirst hz hX hX0 hX3 hsg w
  rw [hj] at cr
  have hm0 := vD_first D hD hD0 hfirst 19 (by decide)
  have hm1 : vD (D.take 19) < 10000000000000000000 := by
    have h1 := vD_lt (D.take 19) (hD.take 19)
    have h2 : 10 ^ (D.take 19).length ≤ 10 ^ 19 := Nat.pow_le_pow_right (by decide) (by simp; omega)
    omega
  generalize vD (D.take 19) = m at *
  have ce := fun W hW => exact_any m j hm0 (by omega) W (hL.below hW).p10s
  have cp := fun W hW => parse64_any m j hm0 (by omega) hj1 hj2 W (hL.below hW).laid.pow (hL.below hW).laid.size
  have hopt := fun W hW => (hL.below (w' := W) hW).opt
  have CE := (show Hid _ from ce)
  have CP := (show Hid _ from cp)
  have HO := (show Hid _ from hopt)
  have cb := bool2u false
  have hmz : ((m : Int) == 0) = false := by rw [beq_eq_false_iff_ne]; omega
  have hp1 : ¬ (310 : Int) < (j : Int) - 400 := by omega
  have hp2 : ¬ (j : Int) - 400 < -345 := by omega
  clear hat hfirst hz hsg hL ce cp hopt hj hD hX hs
  generalize (S.size : Int) = NN at *
  go_enter Tryz.func284, Tryz.ntmps284
  go_wp2_with (first | (go_at_call 286; refine cs.mono ?_; rintro e w1 ⟨rfl, rfl⟩) | (go_at_call 287; refine cr.mono ?_; rintro e w2 ⟨rfl, hb2⟩; have ho := HO.out _ hb2; have ce := CE.out _ hb2) | (go_at_call 279; refine (cb _).mono ?_; rintro e w3 ⟨rfl, rfl⟩) | (go_at_call 296; fail))
  refine ce.mono ?_
  rintro e w4 ⟨f, ok, rfl, hok, rfl⟩
  clear ce cs cr cb CE HO
  cases ok with
  | true =>
    obtain ⟨R, hR, hf⟩ := hok rfl
    have HR : Hid (DecNear m j R) := hR
    have HF : Hid (f = min R 9218868437227405312) := hf
    clear hok hR hf CP
    go_wp2
    go_ret3
    exact ⟨R, .nilIface, HR.out, by rw [← HF.out]; rfl, .inl rfl, hb2⟩
  | false =>
    have cp := CP.out _ hb2
    clear hok CP
    go_wp2_with (first | (go_at_call 297; refine cp.mono ?_; rintro e w5 ⟨R, err, hR, rfl, herr, hb5⟩; have HR : Hid (DecNear m j R) := hR; have HE : Hid (err = .nilIface ∨ err = .iface 182 (.int .i64 1)) := herr; clear hR herr))
    go_ret3
    exact ⟨R, err, HR.out, rfl, HE.out, hb2.trans (hb5.mono hb2.size)⟩
set_option maxRecDepth 100000 in
set_option maxHeartbeats 1000000 in
theorem prefix_of (S : ByteArray) (P : Nat → Value → Prop) (w : World) (h : Calls Tryz.prog 284 #[.string S] w fun r w' => ∃ F err, P F err ∧ r = .returned (.tuple #[.float .f64 F, .int .i64 (S.size : Int), err]) ∧ Below w.heap.size w w') :
    Calls Tryz.prog 275 #[.string S, .int .i64 64] w fun r w' => ∃ F err, P F err ∧ r = .returned (.tuple #[.float .f64 F, .int .i64 (S.size : Int), err]) ∧ Below w.heap.size w w' := by
  generalize (S.size : Int) = NN at *
  go_enter Tryz.func275, Tryz.ntmps275
  go_wp2_with (first | (go_at_call 284; refine h.mono ?_; rintro e w1 ⟨F, err, hP, rfl, hb⟩; have HP : Hid (P F err) := hP; clear hP))
  go_ret3
  exact ⟨F, err, HP.out, rfl, hb⟩
set_option maxRecDepth 100000 in
set_option maxHeartbeats 1000000 in
theorem parse_of (S : ByteArray) (hs : S.size ≤ 100000) (P : Nat → Value → Prop) (w : World) (h : Calls Tryz.prog 275 #[.string S, .int .i64 64] w fun r w' => ∃ F err, P F err ∧ r = .returned (.tuple #[.float .f64 F, .int .i64 (S.size : Int), err]) ∧ Below w.heap.size w w') :
    Calls Tryz.prog 238 #[.string S, .int .i64 64] w fun r w' => ∃ F err, P F err ∧ r = .returned (.tuple #[.float .f64 F, err]) ∧ Below w.heap.size w w' := by
  go_enter Tryz.func238, Tryz.ntmps238
  go_wp2_with (first | (go_at_call 275; refine h.mono ?_; rintro e w1 ⟨F, err, hP, rfl, hb⟩; have HP : Hid (P F err) := hP; clear hP))
  go_ret2
  exact ⟨F, err, HP.out, rfl, hb⟩
set_option maxRecDepth 100000 in
set_option maxHeartbeats 1000000 in
theorem public_of (S : ByteArray) (hs : S.size ≤ 100000) (P : Nat → Prop) (w : World) (hL : RLaid w) (h : Calls Tryz.prog 238 #[.string S, .int .i64 64] w fun r w' => ∃ F err, (P F ∧ (err = .nilIface ∨ err = .iface 182 (.int .i64 1))) ∧ r = .returned (.tuple #[.float .f64 F, err]) ∧ Below w.heap.size w w') :
    Calls Tryz.prog 193 #[.string S, .int .i64 64] w fun r w' => ∃ F err, P F ∧ r = .returned (.tuple #[.float .f64 F, err]) ∧ Below w.heap.size w w' := by
  have HL : Hid (RLaid w) := hL
  clear hL
  go_enter Tryz.func193, Tryz.ntmps193
  go_wp2_with (first | (go_at_call 238; fail))
  refine h.mono ?_
  rintro e w1 ⟨F, err, ⟨hP, herr⟩, rfl, hb⟩
  have HP : Hid (P F) := hP
  clear hP h
  rcases herr with rfl | rfl
  · go_wp2
    go_ret2
    exact ⟨F, _, HP.out, rfl, hb⟩
  · obtain ⟨te, pe, hev⟩ := (HL.out.below hb).err
    have ct := Tryz.strconv_toError_range ⟨#[80, 97, 114, 115, 101, 70, 108, 111, 97, 116]⟩ S 0 64 _ w1 (by omega) hev (.inr ⟨te, pe, rfl⟩)
    clear hev
    go_wp2_with (first | (go_at_call 121; refine ct.mono ?_; rintro e w2 ⟨Nn, rfl, hN1, hN2, hb2⟩; clear hN1 hN2))
    go_ret2
    exact ⟨F, _, HP.out, rfl, hb.trans (hb2.mono hb.size)⟩
end Go.Proofs.YtellndmbllmjgaaGreatDoor
