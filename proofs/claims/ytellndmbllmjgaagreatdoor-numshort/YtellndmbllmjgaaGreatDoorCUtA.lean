/- Trim, of bytes below 128 with no white space at the ends. -/
import Derived.Test.YtellndmbllmjgaaGreatDoorCUtR
import Derived.Test.YtellndmbllmjgaaGreatDoorCRf1
set_option linter.unusedVariables false
namespace Go.Proofs.YtellndmbllmjgaaGreatDoor.Ut
open Go.RowKit Go.Shelf Go.Lib

theorem bytes_txt (l : List Nat) (h : ∀ c ∈ l, c < 256) : bytes (YtellndmbllmjgaaGreatDoor.txt l) = l := by
  unfold bytes
  rw [txt_list]
  induction l with
  | nil => rfl
  | cons c l ih =>
    rw [List.map_cons, List.map_cons, ih (fun x hx => h x (by simp [hx])), UInt8.toNat_ofNat', Nat.mod_eq_of_lt (h c (by simp))]
theorem ptL_ascii (c : Nat) (l : List Nat) (h : c < 128) : Un.ptL (c :: l) = (c, 1) := by
  unfold Un.ptL
  have hd : ∀ n b1 b2 b3, Lib.decodeN n c b1 b2 b3 = (c, 1) := by
    intro n b1 b2 b3
    unfold Lib.decodeN
    rw [if_pos h]
  simp [Un.pointN, hd]
  omega
theorem unitsL_ascii : ∀ (f : Nat) (l : List Nat), l.length ≤ f → (∀ c ∈ l, c < 128) → Un.unitsL f l = l
  | 0, l, hf, h => by
    have : l = [] := List.eq_nil_of_length_eq_zero (by omega)
    subst this
    rfl
  | f + 1, [], hf, h => by simp [Un.unitsL]
  | f + 1, c :: l, hf, h => by
    have hc := h c (by simp)
    rw [Un.unitsL_step (f + 1) (c :: l) (by simp) hf, ptL_ascii c l hc]
    have hu : Un.unR c = [c] := by unfold Un.unR; rw [if_pos (by omega)]
    simp only [hu]
    rw [show f + 1 - 1 = f by omega]
    simp only [List.drop_succ_cons, List.drop_zero, List.singleton_append]
    rw [unitsL_ascii f l (by simp at hf; omega) (fun x hx => h x (by simp [hx]))]
theorem pts_ascii : ∀ (l : List Nat), (∀ c ∈ l, c < 128) → Un.pts l = l
  | [], _ => rfl
  | [u], _ => rfl
  | u :: v :: t, h => by
    have hu := h u (by simp)
    unfold Un.pts
    have hf : Un.isF u = false := by unfold Un.isF; rw [decide_eq_false (by omega), Bool.false_and]
    rw [hf, Bool.false_and]
    simp only [Bool.false_eq_true, if_false]
    rw [pts_ascii (v :: t) (fun x hx => h x (by simp at hx ⊢; exact .inr hx))]
theorem enc_ascii : ∀ (l : List Nat), (∀ c ∈ l, c < 128) → l.flatMap Un.encR = l
  | [], _ => rfl
  | c :: l, h => by
    rw [List.flatMap_cons, enc_ascii l (fun x hx => h x (by simp [hx]))]
    unfold Un.encR
    rw [if_pos (h c (by simp))]
    rfl
theorem trim_none (l : List Nat) (hw0 : ∀ c, l[0]? = some c → whiteU c = false) (hw1 : ∀ c m, l = m ++ [c] → whiteU c = false) : trimU l = l := by
  unfold trimU ltrim
  have e1 : l.dropWhile whiteU = l := by
    cases l with
    | nil => rfl
    | cons c l => rw [List.dropWhile_cons, hw0 c rfl]; rfl
  rw [e1]
  rcases List.eq_nil_or_concat l with rfl | ⟨m, x, rfl⟩
  · rfl
  · rw [List.concat_eq_append, rtrim_snoc, if_neg (by rw [hw1 x m (by simp)]; simp)]
theorem white_no (c : Nat) (h : c < 128) (h2 : 32 < c) : whiteU c = false := by
  unfold whiteU
  have := zs_small ⟨c, h⟩
  rw [this, decide_eq_false (by simp; omega)]
  simp
  omega
theorem txt_ascii (l : List Nat) (h : ∀ c ∈ l, c < 128) : txt l = YtellndmbllmjgaaGreatDoor.txt l := by
  unfold txt txtB
  rw [pts_ascii l h, enc_ascii l h]
  rfl
/-- **Trim leaves such a text as it is.** -/
theorem trim_ascii (l : List Nat) (h : ∀ c ∈ l, 32 < c ∧ c < 128) (hl : l.length ≤ 100000) (w : World) (hT : Lib.Utf8Tabs 1 2 w) (hZ : RVar 3 zsT w) :
    Calls Tryz.prog 39 #[.string (YtellndmbllmjgaaGreatDoor.txt l)] w fun e w' => e = .returned (.string (YtellndmbllmjgaaGreatDoor.txt l)) ∧ Below w.heap.size w w' := by
  have hs := txt_size l
  refine (trim_any (YtellndmbllmjgaaGreatDoor.txt l) (by omega) w hT hZ).mono ?_
  rintro e w' ⟨rfl, hb⟩
  refine ⟨?_, hb⟩
  have e1 : unitsS (YtellndmbllmjgaaGreatDoor.txt l) = l := by
    unfold unitsS
    rw [bytes_txt l (fun c hc => by have := h c hc; omega), hs]
    exact unitsL_ascii l.length l (Nat.le_refl _) (fun c hc => (h c hc).2)
  have e2 : trimU l = l := by
    refine trim_none l (fun c hc => ?_) (fun c m hm => ?_)
    · have := h c (List.mem_of_getElem? hc)
      exact white_no c this.2 this.1
    · have := h c (by rw [hm]; simp)
      exact white_no c this.2 this.1
  rw [e1, e2, txt_ascii l (fun c hc => (h c hc).2)]
end Go.Proofs.YtellndmbllmjgaaGreatDoor.Ut
