/- frontExponent and frontDecimal at a number's shape. -/
import Derived.Test.YtellndmbllmjgaaGreatDoorCFsA
import Derived.Test.YtellndmbllmjgaaGreatDoorCFr1
import Derived.Test.YtellndmbllmjgaaGreatDoorCNbA
import Derived.Test.YtellndmbllmjgaaGreatDoorCUtA
set_option linter.unusedVariables false
namespace Go.Proofs.YtellndmbllmjgaaGreatDoor
open Go.RowKit Go.Shelf Go.Sort Fs Fl

theorem ext_drop (l m : List Nat) : (txt (l ++ m)).extract l.length (txt (l ++ m)).size = txt m := by
  rw [txt_extract, txt_size, List.drop_left, List.take_of_length_le (by simp)]
theorem ext_take (l m : List Nat) : (txt (l ++ m)).extract 0 l.length = txt l := by
  rw [txt_extract, List.drop_zero, Nat.sub_zero, List.take_left]
theorem ext_all (l : List Nat) : (txt l).extract 0 (txt l).size = txt l := by
  simp
theorem ext_mid (l m r : List Nat) (c : Nat) : (txt (l ++ c :: (m ++ r))).extract (l.length + 1) (l.length + 1 + m.length) = txt m := by
  have e : l ++ c :: (m ++ r) = (l ++ [c]) ++ (m ++ r) := by simp
  rw [txt_extract, e, show l.length + 1 = (l ++ [c]).length by simp, List.drop_left, show (l ++ [c]).length + m.length - (l ++ [c]).length = m.length by omega, List.take_left]
theorem get_txt (l : List Nat) (h : ∀ c ∈ l, c < 256) (k c : Nat) (hc : l[k]? = some c) : ∀ hk : k < (txt l).size, ((txt l)[k]'hk).toNat = c := txt_get l k c hc (h c (List.mem_of_getElem? hc))
theorem pre_one (c b : Nat) (r : List Nat) (hc : c < 256) (hb : b < 256) : Lib.hasPrefix (txt (c :: r)).data.toList [UInt8.ofNat b] = decide (c = b) := by
  rw [txt_list]
  unfold Lib.hasPrefix
  rw [List.map_cons]
  by_cases h : c = b
  · subst h
    simp [List.isPrefixOf]
  · have := ofNat_ne hc hb h
    rw [decide_eq_false h]
    simp [List.isPrefixOf]
    exact fun e => this e.symm
theorem dig_lt {l : List Nat} (h : Dig l) : ∀ c ∈ l, c < 256 := fun c hc => by have := h c hc; omega
/-- run at digits and what stands behind them. -/
theorem run_txt (A r : List Nat) (hA : Dig A) (hr : ∀ c ∈ r, c < 256) (hs : A.length + r.length ≤ 100000) (hst : ∀ c, r[0]? = some c → Stop10 c) (w : World) : Calls Tryz.prog 54 #[.string (txt (A ++ r)), .int .i64 10] w fun e w' => e = .returned (.int .i64 (A.length : Int)) ∧ w' = w := by
  have hsz := txt_size (A ++ r)
  rw [List.length_append] at hsz
  have hall : ∀ c ∈ A ++ r, c < 256 := fun c hc => (List.mem_append.1 hc).elim (dig_lt hA c) (hr c)
  refine run_at (txt (A ++ r)) A (by omega) (by omega) hA (fun k c hc => get_txt _ hall k c ?_) (fun h => ?_) w
  · have hk : k < A.length := (List.getElem?_eq_some_iff.1 hc).1
    rw [List.getElem?_append_left hk]
    exact hc
  · obtain ⟨c, hc⟩ : ∃ c, r[0]? = some c := ⟨_, List.getElem?_eq_getElem (by omega)⟩
    rw [get_txt _ hall A.length c (by rw [List.getElem?_append_right (Nat.le_refl _), Nat.sub_self]; exact hc) h]
    exact hst c hc
/-- **frontExponent at an exponent's shape.** -/
theorem fe_any (tl : List Nat) (e : Int) (h : Expo tl e) (w : World) : Calls Tryz.prog 148 #[.string (txt tl)] w fun r w' => r = .returned (.tuple #[.int .i64 e, .int .i64 (tl.length : Int)]) ∧ Below w.heap.size w w' := by
  rcases h with ⟨rfl, rfl⟩ | ⟨g, X, rfl, hX, hX0, hX4, hg⟩
  · refine (fe_none (txt []) (by rw [Lib.toList_data, txt_list]; rfl) w).mono ?_
    rintro r w' ⟨rfl, rfl⟩
    exact ⟨rfl, Below.refl _ _⟩
  · have hXs := txt_size X
    have hgl : g.length ≤ 1 := by rcases hg with ⟨h, _⟩ | ⟨h, _⟩ | ⟨h, _⟩ <;> rw [h] <;> simp
    have hsz : (txt (101 :: (g ++ X))).size = 1 + g.length + X.length := by rw [txt_size]; simp; omega
    have hne : (txt (101 :: (g ++ X))).toList.isEmpty = false := by
      rw [Lib.toList_data, txt_list]; rfl
    have he1 : (txt (101 :: (g ++ X))).extract 1 (txt (101 :: (g ++ X))).size = txt (g ++ X) := ext_drop [101] (g ++ X)
    have cr : ∀ w, Calls Tryz.prog 54 #[.string (txt X), .int .i64 10] w fun e w' => e = .returned (.int .i64 (X.length : Int)) ∧ w' = w := by
      intro w
      have := run_txt X [] hX (by simp) (by simp; omega) (by simp) w
      rwa [List.append_nil] at this
    have hatX : ∀ k c, X[k]? = some c → ∀ h : k < (txt X).size, ((txt X)[k]'h).toNat = c := fun k c hc => get_txt X (dig_lt hX) k c hc
    obtain ⟨c, r, hXc⟩ : ∃ c r, X = c :: r := by
      cases X with
      | nil => simp at hX0
      | cons c r => exact ⟨c, r, rfl⟩
    have hc := hX c (by rw [hXc]; simp)
    have h0 : ∀ h : 0 < (txt (101 :: (g ++ X))).size, ((txt (101 :: (g ++ X)))[0]'h).toNat = 101 := txt_get _ 0 101 rfl (by decide)
    have key : ∀ (f : Nat) (sn : Int), (sn = 1 ∨ sn = -1) → floatToIntVal .f64 f .i64 = some sn → sn * (vD X : Int) = e → (∀ w, Calls Tryz.prog 52 #[.string (txt (g ++ X))] w fun e w' => e = .returned (.tuple #[.string (txt X), .float .f64 f]) ∧ w' = w) →
        Calls Tryz.prog 148 #[.string (txt (101 :: (g ++ X)))] w fun r w' => r = .returned (.tuple #[.int .i64 e, .int .i64 ((101 :: (g ++ X)).length : Int)]) ∧ Below w.heap.size w w' := by
      intro f sn h1 h2 h3 h4
      have := fe_some (txt (101 :: (g ++ X))) (txt X) X f sn hne (by omega) (by omega) (h0 (by omega)) hX hX0 hX4 hXs hatX h1 h2 w (by rw [he1]; exact h4) cr (fun c w a b => digit_dec c a b w)
      rw [h3, txt_size] at this
      exact this
    rcases hg with ⟨rfl, he⟩ | ⟨rfl, he⟩ | ⟨rfl, he⟩
    · refine key 4607182418800017408 1 (.inl rfl) conv_one (by omega) (fun w => ?_)
      rw [List.nil_append, hXc]
      exact cutSign_none _ ((pre_one c 45 r (by omega) (by decide)).trans (decide_eq_false (by omega))) ((pre_one c 43 r (by omega) (by decide)).trans (decide_eq_false (by omega))) w
    · refine key 4607182418800017408 1 (.inl rfl) conv_one (by omega) (fun w => ?_)
      have h2 := cutSign_plus (txt ([43] ++ X)) (by rw [txt_size]; simp) (by rw [txt_size]; simp; omega) (pre_one 43 45 X (by decide) (by decide)) (pre_one 43 43 X (by decide) (by decide)) w
      have e2 : (txt ([43] ++ X)).extract 1 (txt ([43] ++ X)).size = txt X := ext_drop [43] X
      rwa [e2] at h2
    · refine key 13830554455654793216 (-1) (.inr rfl) conv_min (by omega) (fun w => ?_)
      have h2 := cutSign_minus (txt ([45] ++ X)) (by rw [txt_size]; simp) (by rw [txt_size]; simp; omega) (pre_one 45 45 X (by decide) (by decide)) w
      have e2 : (txt ([45] ++ X)).extract 1 (txt ([45] ++ X)).size = txt X := ext_drop [45] X
      rwa [e2] at h2
theorem expo_first {tl : List Nat} {e : Int} (h : Expo tl e) : ∀ c, tl[0]? = some c → Stop10 c := by
  intro c hc
  rcases h with ⟨rfl, _⟩ | ⟨g, X, rfl, _⟩
  · simp at hc
  · simp at hc; exact .inr (.inl hc.symm)
theorem expo_lt {tl : List Nat} {e : Int} (h : Expo tl e) : (∀ c ∈ tl, c < 128 ∧ 32 < c ∧ c ≠ 120 ∧ c ≠ 88) ∧ tl.length ≤ 6 := by
  rcases h with ⟨rfl, _⟩ | ⟨g, X, rfl, hX, h0, h4, hg⟩
  · simp
  · constructor
    · intro c hc
      simp only [List.mem_cons, List.mem_append] at hc
      rcases hc with h | h | h
      · omega
      · rcases hg with ⟨e, _⟩ | ⟨e, _⟩ | ⟨e, _⟩ <;> rw [e] at h <;> simp at h <;> omega
      · have := hX c h; omega
    · rcases hg with ⟨e, _⟩ | ⟨e, _⟩ | ⟨e, _⟩ <;> rw [e] <;> simp <;> omega
end Go.Proofs.YtellndmbllmjgaaGreatDoor
/- num.Read at a number's shape: the nearest word. -/
set_option linter.unusedVariables false
namespace Go.Proofs.YtellndmbllmjgaaGreatDoor
open Go.RowKit Go.Shelf Go.Sort Fs Fl

/-- The digits of a number: noughts, then digits whose first is none; those behind the nineteenth are noughts. -/
structure Digs (A B : List Nat) (z : Nat) (D : List Nat) : Prop where
  all : A ++ B = List.replicate z 48 ++ D
  dig : Dig D
  pos : 0 < D.length
  len : D.length ≤ 40
  first : D[0]? ≠ some 48
  rest : ∀ k c, 19 ≤ k → D[k]? = some c → c = 48
/-- **frontDecimal at a number's shape.** -/
theorem fdec_any {T A B tl D : List Nat} {dot : Bool} {e : Int} {z J : Nat} (h : Shape T A B dot tl e) (hd : Digs A B z D) (hz : z ≤ 1000) (he1 : -5000 ≤ e) (he2 : e ≤ 5000) (hJ : e - (B.length : Int) = (J : Int) - 400) (hJ1 : 55 ≤ J) (hJ2 : J + (D.length - 19) ≤ 710) (w : World) (hL : RLaid w) :
    Calls Tryz.prog 97 #[.string (txt T)] w fun r w' => ∃ F, (∃ R, DecNear (vD D) J R ∧ F = min R 9218868437227405312) ∧ r = .returned (.tuple #[.float .f64 F, .int .i64 ((txt T).size : Int)]) ∧ Below w.heap.size w w' := by
  have hab : A.length + B.length = z + D.length := by
    have := congrArg List.length hd.all
    simpa using this
  have hlen := hd.len
  obtain ⟨hx1, hx2⟩ := expo_lt h.exp
  have cf : ∀ W, Below w.heap.size w W → Calls Tryz.prog 149 #[.string (txt (A ++ B)), .int .i64 ((A.length : Int) + e)] W fun r w' => ∃ F, (∃ R, DecNear (vD D) J R ∧ F = min R 9218868437227405312) ∧ r = .returned (.float .f64 F) ∧ Below W.heap.size W w' := by
    intro W hW
    rw [hd.all]
    exact fromDecimal_any z D ((A.length : Int) + e) J hz hd.dig hd.pos hd.len hd.first hd.rest (by omega) hJ1 hJ2 W (hL.below hW)
  cases dot with
  | false =>
    have hB := h.nod rfl
    subst hB
    have hT : T = A ++ tl := by have := h.text; simpa using this
    subst hT
    rw [List.append_nil] at cf
    have hsz := txt_size (A ++ tl)
    rw [List.length_append] at hsz
    simp only [List.length_nil, Nat.add_zero] at hab
    have hall : ∀ c ∈ A ++ tl, c < 256 := fun c hc => (List.mem_append.1 hc).elim (dig_lt h.digA c) (fun h => by have := hx1 c h; omega)
    refine fdec_plain (txt (A ++ tl)) A.length tl.length e _ (by omega) h.neA (by omega) (by omega) (by omega) (by omega) w (fun hk => ?_) (fun w => ?_) (fun w => ?_) (fun W hW => ?_)
    · obtain ⟨c, hc⟩ : ∃ c, tl[0]? = some c := ⟨_, List.getElem?_eq_getElem (by omega)⟩
      rw [get_txt _ hall A.length c (by rw [List.getElem?_append_right (Nat.le_refl _), Nat.sub_self]; exact hc) hk]
      rcases h.exp with ⟨h1, _⟩ | ⟨g, X, h1, _⟩
      · rw [h1] at hc; simp at hc
      · rw [h1] at hc; simp at hc; omega
    · rw [ext_all]
      exact run_txt A tl h.digA (fun c hc => by have := hx1 c hc; omega) (by omega) (expo_first h.exp) w
    · rw [ext_drop]
      exact fe_any tl e h.exp w
    · rw [ext_take]
      exact cf W hW
  | true =>
    have hT : T = A ++ 46 :: (B ++ tl) := by have := h.text; simpa using this
    subst hT
    have hsz : (txt (A ++ 46 :: (B ++ tl))).size = A.length + 1 + B.length + tl.length := by rw [txt_size]; simp; omega
    have hall : ∀ c ∈ A ++ 46 :: (B ++ tl), c < 256 := by
      intro c hc
      simp only [List.mem_append, List.mem_cons] at hc
      rcases hc with h1 | h1 | h1 | h1
      · exact dig_lt h.digA c h1
      · omega
      · exact dig_lt h.digB c h1
      · have := hx1 c h1; omega
    have e0 : A ++ 46 :: (B ++ tl) = (A ++ [46]) ++ (B ++ tl) := by simp
    have e1 : A ++ 46 :: (B ++ tl) = (A ++ 46 :: B) ++ tl := by simp
    refine fdec_dot (txt (A ++ 46 :: (B ++ tl))) A.length B.length tl.length e _ (by omega) h.neA (by omega) (by omega) (by omega) w (fun hk => ?_) (fun w => ?_) (fun w => ?_) (fun w => ?_) (fun W hW => ?_)
    · exact get_txt _ hall A.length 46 (by rw [List.getElem?_append_right (Nat.le_refl _), Nat.sub_self]; rfl) hk
    · rw [ext_all]
      exact run_txt A (46 :: (B ++ tl)) h.digA (fun c hc => hall c (List.mem_append.2 (.inr hc))) (by simp; omega) (fun c hc => by simp at hc; exact .inl hc.symm) w
    · have e2 : (txt (A ++ 46 :: (B ++ tl))).extract (A.length + 1) (txt (A ++ 46 :: (B ++ tl))).size = txt (B ++ tl) := by
        rw [e0, show A.length + 1 = (A ++ [46]).length by simp]
        exact ext_drop (A ++ [46]) (B ++ tl)
      rw [e2]
      exact run_txt B tl h.digB (fun c hc => by have := hx1 c hc; omega) (by omega) (expo_first h.exp) w
    · have e2 : (txt (A ++ 46 :: (B ++ tl))).extract (A.length + 1 + B.length) (txt (A ++ 46 :: (B ++ tl))).size = txt tl := by
        rw [e1, show A.length + 1 + B.length = (A ++ 46 :: B).length by simp; omega]
        exact ext_drop (A ++ 46 :: B) tl
      rw [e2]
      exact fe_any tl e h.exp w
    · rw [ext_mid, ext_take, txt_append]
      exact cf W hW
/-- **num.Read at a number's shape, with its sign: the nearest word.** -/
theorem read_shape {T A B tl D : List Nat} {dot : Bool} {e : Int} {z J : Nat} (s : Bool) (h : Shape T A B dot tl e) (hd : Digs A B z D) (hz : z ≤ 1000) (he1 : -5000 ≤ e) (he2 : e ≤ 5000) (hJ : e - (B.length : Int) = (J : Int) - 400) (hJ1 : 55 ≤ J) (hJ2 : J + (D.length - 19) ≤ 710) (w : World) (hL : RLaid w) (hU : Lib.Utf8Tabs 1 2 w) (hZ : Lib.RVar 3 Ut.zsT w) :
    Calls Tryz.prog 11 #[.string (txt ((if s then [45] else []) ++ T))] w fun r w' => ∃ x, (∃ R, DecNear (vD D) J R ∧ x = wd s (min R 9218868437227405312)) ∧ r = .returned (.float .f64 x) ∧ Below w.heap.size w w' := by
  have hab : A.length + B.length = z + D.length := by
    have := congrArg List.length hd.all
    simpa using this
  have hlen := hd.len
  obtain ⟨hx1, hx2⟩ := expo_lt h.exp
  have hTl : T.length ≤ 3000 := by
    rw [h.text]
    cases dot <;> simp <;> omega
  have hTc : ∀ c ∈ T, c < 128 ∧ 32 < c ∧ c ≠ 120 ∧ c ≠ 88 := by
    intro c hc
    rw [h.text] at hc
    simp only [List.mem_append] at hc
    rcases hc with h1 | h1 | h1
    · have := h.digA c h1; omega
    · cases dot
      · simp at h1
      · simp at h1
        rcases h1 with h1 | h1
        · omega
        · have := h.digB c h1; omega
    · exact hx1 c h1
  obtain ⟨c0, r0, hT0, hc0⟩ : ∃ c0 r0, T = c0 :: r0 ∧ (48 ≤ c0 ∧ c0 < 58) := by
    have hA := h.neA
    have hdA := h.digA
    rw [h.text]
    cases A with
    | nil => simp at hA
    | cons c l => exact ⟨c, _, rfl, hdA c (by simp)⟩
  have hSc : ∀ c ∈ (if s then [45] else []) ++ T, c < 128 ∧ 32 < c ∧ c ≠ 120 ∧ c ≠ 88 := by
    intro c hc
    rcases List.mem_append.1 hc with h1 | h1
    · cases s
      · simp at h1
      · simp at h1; omega
    · exact hTc c h1
  have hSl : ((if s then [45] else []) ++ T).length ≤ 3001 := by cases s <;> simp <;> omega
  have hSs := txt_size ((if s then [45] else []) ++ T)
  have hTs := txt_size T
  have hS0 : 0 < ((if s then [45] else []) ++ T).length := by rw [hT0]; cases s <;> simp
  have hle : T.length ≤ ((if s then [45] else []) ++ T).length := by simp
  have cs : ∀ w, Calls Tryz.prog 52 #[.string (txt ((if s then [45] else []) ++ T))] w fun e w' => e = .returned (.tuple #[.string (txt T), .float .f64 (wd s 4607182418800017408)]) ∧ w' = w := by
    intro w
    cases s with
    | false =>
      rw [wd_false]
      show Calls Tryz.prog 52 #[.string (txt T)] w _
      rw [hT0]
      exact cutSign_none _ ((pre_one c0 45 r0 (by omega) (by decide)).trans (decide_eq_false (by omega))) ((pre_one c0 43 r0 (by omega) (by decide)).trans (decide_eq_false (by omega))) w
    | true =>
      have h2 := cutSign_minus (txt ([45] ++ T)) (by rw [txt_size]; simp) (by rw [txt_size]; simp; omega) (pre_one 45 45 T (by decide) (by decide)) w
      have e2 : (txt ([45] ++ T)).extract 1 (txt ([45] ++ T)).size = txt T := ext_drop [45] T
      rw [e2] at h2
      exact h2
  refine (read_of (txt ((if s then [45] else []) ++ T)) (fun x => ∃ F, (∃ R, DecNear (vD D) J R ∧ F = min R 9218868437227405312) ∧ x = wd s F) (by omega) (by omega) w (Ut.trim_ascii _ (fun c hc => by have := hSc c hc; omega) (by omega) w hU hZ) (fun w => cutHex_no _ (by omega) (fun hk => ?_) w) (fun W hW => ?_)).mono ?_
  · obtain ⟨c, hc⟩ : ∃ c, ((if s then [45] else []) ++ T)[1]? = some c := ⟨_, List.getElem?_eq_getElem (by omega)⟩
    rw [get_txt _ (fun c hc => by have := hSc c hc; omega) 1 c hc hk]
    have := hSc c (List.mem_of_getElem? hc)
    exact ⟨this.2.2.1, this.2.2.2⟩
  · refine (front_of (txt ((if s then [45] else []) ++ T)) (txt T) s (fun F => ∃ R, DecNear (vD D) J R ∧ F = min R 9218868437227405312) (by omega) (by omega) (fun F hF => by obtain ⟨R, _, rfl⟩ := hF; exact Nat.min_le_right _ _) ?_ W cs (fdec_any h hd hz he1 he2 hJ hJ1 hJ2 W (hL.below hW))).mono ?_
    · rw [txt_list, hT0]
      unfold Lib.hasPrefix
      have : UInt8.ofNat 73 ≠ UInt8.ofNat c0 := ofNat_ne (by decide) (by omega) (by omega)
      simp [List.isPrefixOf]
      intro h1
      exact absurd h1 this
    · rintro r w' ⟨F, hF, rfl, hb⟩
      exact ⟨_, ⟨F, hF, rfl⟩, rfl, hb⟩
  · rintro r w' ⟨x, ⟨F, ⟨R, h1, rfl⟩, rfl⟩, rfl, hb⟩
    exact ⟨_, ⟨R, h1, rfl⟩, rfl, hb⟩
end Go.Proofs.YtellndmbllmjgaaGreatDoor
/- What is written is read again as the same word. -/
set_option linter.unusedVariables false
namespace Go.Proofs.YtellndmbllmjgaaGreatDoor
open Go.RowKit Go.Shelf Go.Sort Fs Fl

/-- **Read of what Text has written.** -/
theorem read_written (s : Bool) (r d0 J : Nat) (h0 : 0 < r) (h1 : r < 9218868437227405312) (hT : Fs.Told (magR r) (expR r) d0 J) (hd0 : 0 < d0) (hd1 : d0 < 1152921504606846976) (w : World) (hL : RLaid w) (hU : Lib.Utf8Tabs 1 2 w) (hZ : Lib.RVar 3 Ut.zsT w) :
    Calls Tryz.prog 11 #[.string (txt ((if s then [45] else []) ++ textD (decN d0) ((Lib.nDigits d0 : Int) + (J : Int) - 400)))] w fun e w' => e = .returned (.float .f64 (wd s r)) ∧ Below w.heap.size w w' := by
  have hnl : Lib.nDigits d0 ≤ 19 := nDigits_le d0 19 (by omega) (by omega)
  have hnp := Lib.nDigits_pos d0
  have hlen := decN_length d0
  obtain ⟨hJ1, hJ2⟩ := dec_bounds h0 h1 hd0 hd1 (told_near hT)
  obtain ⟨A, B, dot, tl, e, hSh, z, t, hab, hrel, he1, he2, ht, hz⟩ := textD_shape (decN d0) ((Lib.nDigits d0 : Int) + (J : Int) - 400) (dig_decN d0) (by omega) (by omega) (by omega)
  obtain ⟨c, l, hcl, hc1, hc2⟩ := decN_head d0 hd0
  have hd : Digs A B z (decN d0 ++ List.replicate t 48) := by
    refine ⟨hab, (dig_decN d0).append (dig_zeros t), by simp; omega, by simp; omega, ?_, ?_⟩
    · rw [hcl]
      simp
      omega
    · intro k c hk hc
      rw [List.getElem?_append_right (by omega)] at hc
      exact List.eq_of_mem_replicate (List.mem_of_getElem? hc)
  have htJ : t + 55 ≤ J := by
    rcases ht with h | ⟨h2, h3, h4⟩
    · omega
    · rw [h3, h4] at hrel
      simp at hrel
      omega
  have hDl : (decN d0 ++ List.replicate t 48).length = Lib.nDigits d0 + t := by simp; omega
  refine (read_shape (J := J - t) s hSh hd (by omega) (by omega) (by omega) (by omega) (by omega) (by rw [hDl]; omega) w hL hU hZ).mono ?_
  rintro e w' ⟨x, ⟨R, hR, rfl⟩, rfl, hb⟩
  refine ⟨?_, hb⟩
  rw [vD_append, vD_decN, vD_zeros, List.length_replicate, Nat.add_zero, decNear_shift, show J - t + t = J by omega] at hR
  have := read_back hT hR
  subst this
  rw [Nat.min_eq_left (by omega)]
/-- **Read of digits and an exponent that are fewer: never the same word.** -/
theorem read_short (s : Bool) (r d0 J D : Nat) (X : List Nat) (g : List Nat) (e : Int) (h0 : 0 < r) (h1 : r < 9218868437227405312) (hT : Fs.Told (magR r) (expR r) d0 J) (hd0 : 0 < d0) (hd1 : d0 < 1152921504606846976) (hD0 : 0 < D) (hD : D < 1152921504606846976) (hE : Expo (101 :: (g ++ X)) e) (he : e = (J : Int) + 1 - 400) (w : World) (hL : RLaid w) (hU : Lib.Utf8Tabs 1 2 w) (hZ : Lib.RVar 3 Ut.zsT w) :
    Calls Tryz.prog 11 #[.string (txt ((if s then [45] else []) ++ (decN D ++ (101 :: (g ++ X)))))] w fun rr w' => (∃ R, R ≠ r ∧ R ≤ 9218868437227405312 ∧ rr = .returned (.float .f64 (wd s R))) ∧ Below w.heap.size w w' := by
  have hnl : Lib.nDigits D ≤ 19 := nDigits_le D 19 (by omega) (by omega)
  have hnp := Lib.nDigits_pos D
  have hlen := decN_length D
  obtain ⟨hJ1, hJ2⟩ := dec_bounds h0 h1 hd0 hd1 (told_near hT)
  obtain ⟨c, l, hcl, hc1, hc2⟩ := decN_head D hD0
  have hSh : Shape (decN D ++ (101 :: (g ++ X))) (decN D) [] false (101 :: (g ++ X)) e := ⟨by simp, fun _ => rfl, hE, dig_decN D, fun c hc => by simp at hc, by omega⟩
  have hd : Digs (decN D) [] 0 (decN D) := by
    refine ⟨by simp, dig_decN D, by omega, by omega, ?_, ?_⟩
    · rw [hcl]
      simp
      omega
    · intro k c hk hc
      rw [List.getElem?_eq_none (by omega)] at hc
      cases hc
  refine (read_shape (J := J + 1) s hSh hd (by omega) (by omega) (by omega) (by simp; omega) (by omega) (by omega) w hL hU hZ).mono ?_
  rintro rr w' ⟨x, ⟨R, hR, rfl⟩, rfl, hb⟩
  refine ⟨⟨min R 9218868437227405312, ?_, Nat.min_le_right _ _, rfl⟩, hb⟩
  rw [vD_decN] at hR
  have := read_fewer hT (Nat.lt_succ_self J) hR
  omega
end Go.Proofs.YtellndmbllmjgaaGreatDoor
