/- The law's more: one more in the last place. -/
import Derived.Test.YtellndmbllmjgaaGreatDoorCDa2x
import Derived.Laws.IdiomStrings
import Derived.Test.YtellndmbllmjgaaGreatDoorCPt1x
import Derived.Deep.QuietTactic
import Derived.BigQuiet
import Derived.Deep.RegionWith
set_option linter.unusedVariables false
namespace Go.Proofs.YtellndmbllmjgaaGreatDoor
open Go.RowKit Go.Shelf Go.Sort Fs Fl

/-- Block g holds the bytes L at its front. -/
def B8 (w : World) (g : Nat) (L : List Nat) : Prop := ∃ C : Array Value, w.heap[g]? = some (Obj.cells C 5 (C.size, C.size + 1)) ∧ L.length ≤ C.size ∧ ∀ j, j < L.length → C[j]? = some (bv (L[j]?.getD 0))
theorem B8.cell {w : World} {g : Nat} {L : List Nat} (h : B8 w g L) (j : Nat) (hj : j < L.length) : w.cell? ⟨g, j, none⟩ = some (.int .u8 ((L[j]?.getD 0 : Nat) : Int)) := by
  obtain ⟨C, h1, h2, h3⟩ := h
  have e : w.cell? ⟨g, j, none⟩ = C[j]? := by
    unfold World.cell?
    simp only [h1]
    rfl
  rw [e]
  exact h3 j hj
theorem B8.frozen {w : World} {g : Nat} {L : List Nat} (h : B8 w g L) (j : Nat) (hj : j < L.length) : w.frozen? ⟨g, j, none⟩ = false := by
  obtain ⟨C, h1, h2, h3⟩ := h
  simp [World.frozen?, h1]
  omega
theorem B8.set {w : World} {g : Nat} {L : List Nat} (h : B8 w g L) (j d : Nat) : B8 (w.setCell ⟨g, j, none⟩ (.int .u8 (d : Int))) g (L.set j d) := by
  obtain ⟨C, h1, h2, h3⟩ := h
  refine ⟨C.setIfInBounds j (.int .u8 (d : Int)), ?_, by simpa using h2, ?_⟩
  · rw [setCell_eq]
    simp only [mapBlock, Array.getElem?_modify, if_true]
    rw [h1]
    simp [onCells]
  · intro i hi
    rw [List.length_set] at hi
    rw [Array.getElem?_setIfInBounds]
    by_cases hij : j = i
    · subst hij
      rw [if_pos rfl, if_pos (by omega), List.getElem?_set_self hi]
      rfl
    · rw [if_neg hij, List.getElem?_set_ne hij]
      exact h3 i hi
theorem B8.drewN {w : World} {g n : Nat} {L : List Nat} (h : B8 w g L) : B8 (w.drewN n) g L := h
theorem B8.start (w : World) (L : List Nat) (hL : ∀ c ∈ L, c < 256) (cap : Nat) : B8 (w.drew.alloc (.cells (bytesRow (txt L) cap) 5 ((bytesRow (txt L) cap).size, (bytesRow (txt L) cap).size + 1))) w.heap.size L := by
  refine ⟨bytesRow (txt L) cap, ?_, ?_, ?_⟩
  · have := heap_alloc_new w.drew (.cells (bytesRow (txt L) cap) 5 ((bytesRow (txt L) cap).size, (bytesRow (txt L) cap).size + 1))
    exact this
  · unfold bytesRow
    simp [txt]
  · intro j hj
    have hs : j < (txt L).data.size := by simpa [txt] using hj
    rw [bytesRow_at _ _ _ hs]
    have := hL _ (List.getElem_mem hj)
    rw [List.getElem?_eq_getElem hj]
    simp [txt, bv, UInt8.toNat_ofNat', Nat.mod_eq_of_lt this]
theorem B8.conv {w : World} {g cap : Nat} {L : List Nat} (h : B8 w g L) (hL : ∀ c ∈ L, c < 256) (n : Nat) (hn : n = L.length) :
    (convert 92 9 (.slice (some ⟨g, 0, none⟩) n cap)).run Tryz.prog w = .ok (.string (txt L)) w := by
  subst hn
  have := run_convert_bytes_back (P := Tryz.prog) w 92 9 5 ⟨g, 0, none⟩ cap (L.map UInt8.ofNat) Tryz.underlying92 Tryz.underlying5 Tryz.underlying9 (fun j hj => by
    rw [List.length_map] at hj
    have e : (⟨g, 0, none⟩ : Addr).add j = ⟨g, j, none⟩ := by unfold Addr.add; split <;> simp_all
    rw [e, h.cell j hj]
    have h2 := hL _ (List.getElem_mem hj)
    rw [List.getElem?_eq_getElem hj]
    simp [List.getElem_map, UInt8.toNat_ofNat', Nat.mod_eq_of_lt h2])
  simpa [txt] using this
/-- The digits, with k of them still to be looked at. -/
def moL (D : List Nat) (k : Nat) : List Nat := D.take k ++ List.replicate (D.length - k) 48
theorem moL_len (D : List Nat) (k : Nat) (h : k ≤ D.length) : (moL D k).length = D.length := by unfold moL; simp; omega
theorem moL_at (D : List Nat) (j c : Nat) (h : D[j]? = some c) : (moL D (j + 1))[j]?.getD 0 = c := by
  have hj : j < D.length := (List.getElem?_eq_some_iff.1 h).1
  unfold moL
  rw [List.getElem?_append_left (by simp; omega), List.getElem?_take_of_lt (by omega), h]
  rfl
theorem moL_set (D : List Nat) (j c : Nat) (h : j < D.length) : (moL D (j + 1)).set j c = D.take j ++ [c] ++ List.replicate (D.length - (j + 1)) 48 := by
  unfold moL
  rw [List.take_succ_eq_append_getElem h, List.append_assoc, List.set_append_right _ _ (by simp; omega)]
  simp [Nat.min_eq_left (Nat.le_of_lt h)]
theorem moL_next (D : List Nat) (j : Nat) (h : j < D.length) : (moL D (j + 1)).set j 48 = moL D j := by
  rw [moL_set D j 48 h]
  unfold moL
  rw [show D.length - j = (D.length - (j + 1)) + 1 by omega, List.replicate_succ, List.append_assoc]
  rfl
theorem nines_next (D : List Nat) (j : Nat) (h : D[j]? = some 57) (h2 : D.drop (j + 1) = List.replicate (D.length - (j + 1)) 57) : D.drop j = List.replicate (D.length - j) 57 := by
  obtain ⟨hj, he⟩ := List.getElem?_eq_some_iff.1 h
  rw [List.drop_eq_getElem_cons hj, he, h2, show D.length - j = (D.length - (j + 1)) + 1 by omega, List.replicate_succ]
/-- What more answers, where a digit is no nine. -/
theorem more_some (d j c : Nat) (h0 : 0 < d) (h : (decN d)[j]? = some c) (hc : c ≠ 57) (h2 : (decN d).drop (j + 1) = List.replicate ((decN d).length - (j + 1)) 57) : (moL (decN d) (j + 1)).set j (c + 1) = decN (d + 1) := by
  have hdig := dig_decN d
  obtain ⟨a, l, hal, ha1, ha2⟩ := decN_head d h0
  have hv := vD_decN d
  generalize decN d = D at h h2 hal hdig hv ⊢
  obtain ⟨hj, he⟩ := List.getElem?_eq_some_iff.1 h
  have hcr := hdig c (List.mem_of_getElem? h)
  rw [moL_set D j (c + 1) hj]
  have e1 : D = D.take j ++ [c] ++ List.replicate (D.length - (j + 1)) 57 := by
    rw [← h2, List.append_assoc, ← he, List.singleton_append, ← List.drop_eq_getElem_cons hj, List.take_append_drop]
  have e2 := vD_more (D.take j) c (D.length - (j + 1)) hcr.1
  rw [← e1, hv] at e2
  obtain ⟨U, hU⟩ : ∃ U, U = D.take j ++ [c + 1] ++ List.replicate (D.length - (j + 1)) 48 := ⟨_, rfl⟩
  rw [← hU] at e2 ⊢
  have hUd : Dig U := by
    rw [hU]
    refine ((hdig.take j).append ?_).append (dig_zeros _)
    intro x hx
    simp at hx
    omega
  have hhead : ∃ b m, U = b :: m ∧ 48 < b := by
    rw [hU]
    cases j with
    | zero => exact ⟨c + 1, _, rfl, by omega⟩
    | succ j => rw [hal]; exact ⟨a, _, rfl, by omega⟩
  obtain ⟨b, m, hbm, hb⟩ := hhead
  rw [← e2, hbm]
  rw [hbm] at hUd
  exact (decN_of b m hUd hb).symm
/-- What more answers, where all are nines. -/
theorem more_none (d : Nat) (h2 : (decN d).drop 0 = List.replicate ((decN d).length - 0) 57) : 49 :: moL (decN d) 0 = decN (d + 1) := by
  rw [List.drop_zero, Nat.sub_zero] at h2
  have e := vD_over (decN d).length
  rw [← h2, vD_decN] at e
  unfold moL
  rw [List.take_zero, List.nil_append, Nat.sub_zero, ← e]
  refine (decN_of 49 _ ?_ (by omega)).symm
  have := (show Dig [49] by intro x hx; simp at hx; omega).append (dig_zeros (decN d).length)
  exact this
end Go.Proofs.YtellndmbllmjgaaGreatDoor
/- plusOne, nearest, rounded. -/
set_option linter.unusedVariables false
namespace Go.Proofs.YtellndmbllmjgaaGreatDoor
open Go.RowKit Go.Shelf Go.Sort Fs Fl

theorem nines_split : ∀ n (L : List Nat), L.length = n → ∃ M k, L = M ++ List.replicate k 57 ∧ ∀ z, M.getLast? = some z → z ≠ 57
  | 0, L, h => ⟨[], 0, by rw [List.eq_nil_of_length_eq_zero h]; rfl, fun z hz => by simp at hz⟩
  | n + 1, L, h => by
    rcases List.eq_nil_or_concat L with h1 | ⟨M, y, h1⟩
    · rw [h1] at h; simp at h
    · by_cases hy : y = 57
      · obtain ⟨M', k, e, hM⟩ := nines_split n M (by rw [h1] at h; simp at h; omega)
        refine ⟨M', k + 1, ?_, hM⟩
        rw [h1, hy, List.concat_eq_append, e, List.replicate_succ', List.append_assoc]
      · exact ⟨L, 0, by simp, fun z hz => by rw [h1] at hz; simp at hz; omega⟩
theorem trim_nines (M : List Nat) (hM : Dig M) (hl : ∀ z, M.getLast? = some z → z ≠ 57) (k : Nat) : Lib.trimRightB (txt (M ++ List.replicate k 57)).data.toList 57 = (txt M).data.toList := by
  rw [txt_list, txt_list, List.map_append, List.map_replicate]
  unfold Lib.trimRightB
  rw [List.reverse_append, List.reverse_replicate]
  have h1 : ∀ (k : Nat) (l : List UInt8), (List.replicate k (UInt8.ofNat 57) ++ l).dropWhile (· == 57) = l.dropWhile (· == 57) := by
    intro k l
    induction k with
    | zero => rfl
    | succ k ih => rw [List.replicate_succ, List.cons_append, List.dropWhile_cons, if_pos (by decide), ih]
  rw [h1]
  rcases List.eq_nil_or_concat M with h2 | ⟨M', z, h2⟩
  · rw [h2]; rfl
  · have hz := hl z (by rw [h2]; simp)
    have hzr := hM z (by rw [h2]; simp)
    rw [h2, List.concat_eq_append, List.map_append, List.reverse_append]
    have h3 : (UInt8.ofNat z == 57) = false := by
      rw [beq_eq_false_iff_ne]
      exact ofNat_ne (b := 57) (by omega) (by decide) hz
    simp [h3]
theorem enc_all : ∀ z : Fin 127, Utf8.encode (((z.val : Nat) : Int) + 1) = txt [z.val + 1] := by decide +kernel
theorem conv_digit (z : Nat) (hz : z < 127) (w : World) : (convert 5 9 (.int .u8 ((z : Int) + 1))).run Tryz.prog w = .ok (.string (txt [z + 1])) w := by
  have h := run_convert_int_string (P := Tryz.prog) w 5 9 .u8 ((z : Int) + 1) (by rw [Tryz.underlying5]; rfl) Tryz.underlying9
  have e := enc_all ⟨z, hz⟩
  simp only at e
  rw [e] at h
  exact h
set_option maxRecDepth 100000 in
set_option maxHeartbeats 1000000 in
theorem plus_some (M : List Nat) (z k : Nat) (hM : Dig (M ++ [z])) (hz : z ≠ 57) (hl : M.length + k ≤ 10000) (w : World)
    (ct : ∀ w, Calls Tryz.prog 199 #[.string (txt (M ++ [z] ++ List.replicate k 57)), .string ⟨#[57]⟩] w fun e w' => e = .returned (.string (txt (M ++ [z]))) ∧ w' = w)
    (cr : ∀ w, Calls Tryz.prog 27 #[.string ⟨#[48]⟩, .int .i64 (k : Int)] w fun e w' => e = .returned (.string (txt (List.replicate k 48))) ∧ Below w.heap.size w w') :
    Calls Tryz.prog 156 #[.string (txt (M ++ [z] ++ List.replicate k 57))] w fun e w' => e = .returned (.string (txt (M ++ [z + 1] ++ List.replicate k 48))) ∧ Below w.heap.size w w' := by
  have s1 := txt_size (M ++ [z] ++ List.replicate k 57)
  have s2 := txt_size (M ++ [z])
  have s3 := txt_size (List.replicate k 48)
  simp only [List.length_append, List.length_replicate, List.length_singleton] at s1 s2 s3
  have hzr := hM z (by simp)
  have hat : ∀ h : M.length < (txt (M ++ [z])).size, ((txt (M ++ [z]))[M.length]'h).toNat = z := get_txt (M ++ [z]) (fun c hc => by have := hM c hc; omega) M.length z (by simp)
  have hex : (txt (M ++ [z])).extract 0 M.length = txt M := ext_take M [z]
  obtain ⟨n, hn⟩ : ∃ n, n = M.length := ⟨_, rfl⟩
  rw [← hn] at s1 s2 hat hex hl
  obtain ⟨S, hS⟩ : ∃ S, S = txt (M ++ [z] ++ List.replicate k 57) := ⟨_, rfl⟩
  obtain ⟨Kp, hKp⟩ : ∃ Kp, Kp = txt (M ++ [z]) := ⟨_, rfl⟩
  obtain ⟨Z, hZ⟩ : ∃ Z, Z = txt (List.replicate k 48) := ⟨_, rfl⟩
  rw [← hS] at s1 ct ⊢
  rw [← hKp] at s2 ct hex hat
  rw [← hZ] at s3 cr
  have hlt : n < Kp.size := by omega
  have hc := hat hlt
  have HR : Hid (txt M ++ txt [z + 1] ++ Z = txt (M ++ [z + 1] ++ List.replicate k 48)) := by
    show txt M ++ txt [z + 1] ++ Z = txt (M ++ [z + 1] ++ List.replicate k 48)
    rw [hZ, txt_append, txt_append]
  have HE : Hid (Kp.extract 0 n = txt M) := hex
  clear hat hS hKp hZ hn hex hM
  go_enter Tryz.func156, Tryz.ntmps156
  go_wp2_with (first | (go_at_call 199; refine (ct _).mono ?_; rintro e w1 ⟨rfl, rfl⟩) | (go_at_call 27; fail))
  rw [show (n : Int) + 1 + (k : Int) - ((n : Int) + 1) = (k : Int) by omega]
  refine (cr _).mono ?_
  rintro e w2 ⟨rfl, hb2⟩
  have hne : Kp.toList.isEmpty = false := by
    rw [Lib.toList_data]
    cases h : Kp.data.toList with
    | nil => exact absurd (by rw [Lib.size_eq, h]; rfl) (Nat.ne_of_gt (show 0 < Kp.size by omega))
    | cons _ _ => rfl
  clear ct cr
  obtain ⟨D1, hD1⟩ : ∃ D1, D1 = txt [z + 1] := ⟨_, rfl⟩
  have hcv := conv_digit z (by omega)
  rw [← hD1] at hcv
  have hwz : IntKind.u8.wrap ((z : Int) + 1) = (z : Int) + 1 := by rw [IntKind.wrap_u8]; omega
  have hs1 : D1.size = 1 := by rw [hD1, txt_size]; rfl
  have HD1 : Hid (D1 = txt [z + 1]) := hD1
  clear hD1
  have hnk : (n : Int) ≤ (n : Int) + 1 := by omega
  have hnk2 : (n : Int) < (n : Int) + 1 := by omega
  go_wp2
  go_region
  all_goals
    go_wp2
    go_ret
    refine ⟨?_, hb2.drew⟩
    rw [← HR.out, ← HE.out, ← HD1.out]
    rfl
set_option maxRecDepth 100000 in
set_option maxHeartbeats 1000000 in
theorem plus_none (S Z : ByteArray) (k : Nat) (hk : k ≤ 10000) (hS : S.size = k) (hZ : Z.size = k) (w : World)
    (ct : ∀ w, Calls Tryz.prog 199 #[.string S, .string ⟨#[57]⟩] w fun e w' => e = .returned (.string ⟨#[]⟩) ∧ w' = w)
    (cr : ∀ w, Calls Tryz.prog 27 #[.string ⟨#[48]⟩, .int .i64 (k : Int)] w fun e w' => e = .returned (.string Z) ∧ Below w.heap.size w w') :
    Calls Tryz.prog 156 #[.string S] w fun e w' => e = .returned (.string (⟨#[49]⟩ ++ Z)) ∧ Below w.heap.size w w' := by
  have z0 : (ByteArray.mk #[]).size = 0 := rfl
  go_enter Tryz.func156, Tryz.ntmps156
  go_wp2_with (first | (go_at_call 199; refine (ct _).mono ?_; rintro e w1 ⟨rfl, rfl⟩) | (go_at_call 27; refine (cr _).mono ?_; rintro e w2 ⟨rfl, hb2⟩))
  go_ret
  exact ⟨rfl, hb2⟩
theorem zerosD_any (k : Nat) (hk : k ≤ 100000) (w : World) : Calls Tryz.prog 27 #[.string ⟨#[48]⟩, .int .i64 (k : Int)] w fun e w' => e = .returned (.string (txt (List.replicate k 48))) ∧ Below w.heap.size w w' := by
  have cr := Tryz.strings_Repeat ⟨#[48]⟩ k w (by omega) (by simp [ByteArray.size]; omega)
  rw [repeat_zero] at cr
  exact cr
/-- **plusOne.** -/
theorem plus_any (d : Nat) (h0 : 0 < d) (hd : Lib.nDigits d ≤ 9000) (w : World) :
    Calls Tryz.prog 156 #[.string (txt (decN d))] w fun e w' => e = .returned (.string (txt (decN (d + 1)))) ∧ Below w.heap.size w w' := by
  have hlen := decN_length d
  have hdig := dig_decN d
  obtain ⟨M, k, hL, hM⟩ := nines_split _ (decN d) rfl
  have hlk : M.length + k = Lib.nDigits d := by
    have := congrArg List.length hL
    simp at this
    omega
  have hMd : Dig M := fun c hc => hdig c (by rw [hL]; simp [hc])
  have ct : ∀ w, Calls Tryz.prog 199 #[.string (txt (M ++ List.replicate k 57)), .string ⟨#[57]⟩] w fun e w' => e = .returned (.string (txt M)) ∧ w' = w := by
    intro w
    have := Tryz.strings_TrimRight_one (txt (M ++ List.replicate k 57)) 57 (by decide) w (by rw [txt_size]; simp; omega)
    rw [trim_nines M hMd hM k] at this
    exact this
  rcases List.eq_nil_or_concat M with h1 | ⟨M', z, h1⟩
  · subst h1
    have h2 := more_none d (by rw [hL]; simp)
    rw [hL]
    rw [List.nil_append] at hL ct ⊢
    refine (plus_none (txt (List.replicate k 57)) (txt (List.replicate k 48)) k (by simp at hlk; omega) (by rw [txt_size]; simp) (by rw [txt_size]; simp) w ct (zerosD_any k (by simp at hlk; omega))).mono ?_
    rintro e w' ⟨rfl, hb⟩
    refine ⟨?_, hb⟩
    have a1 : (⟨#[49]⟩ : ByteArray) = txt [49] := rfl
    rw [a1, txt_append, ← h2]
    unfold moL
    rw [hlen, List.take_zero, List.nil_append, Nat.sub_zero, ← hlk]
    simp
  · rw [List.concat_eq_append] at h1
    subst h1
    have hz := hM z (by simp)
    have hj : M'.length < (decN d).length := by rw [hlen, ← hlk]; simp; omega
    have h2 := more_some d M'.length z h0 (by rw [hL]; simp) hz (by rw [hL]; simp; omega)
    rw [moL_set _ _ _ hj] at h2
    have e1 : (decN d).take M'.length = M' := by rw [hL]; simp
    have e2 : (decN d).length - (M'.length + 1) = k := by rw [hlen, ← hlk]; simp
    rw [e1, e2] at h2
    rw [hL, ← h2]
    exact plus_some M' z k hMd hz (by simp at hlk; omega) w ct (zerosD_any k (by simp at hlk; omega))
end Go.Proofs.YtellndmbllmjgaaGreatDoor
/- nearest, rounded. -/
set_option linter.unusedVariables false
namespace Go.Proofs.YtellndmbllmjgaaGreatDoor
open Go.RowKit Go.Shelf Go.Sort Fs Fl

set_option maxRecDepth 100000 in
set_option maxHeartbeats 1000000 in
theorem near_neg (S : ByteArray) (n k : Int) (hk : k < 0) (w : World) :
    Calls Tryz.prog 108 #[.agg #[.string S, .int .i64 n], .int .i64 k] w fun e w' => e = .returned (.string ⟨#[]⟩) ∧ Below w.heap.size w w' := by
  go_enter Tryz.func108, Tryz.ntmps108
  go_wp2
  go_ret
  exact ⟨rfl, (Below.refl _ _).alloc (Nat.le_refl _) _⟩
set_option maxRecDepth 100000 in
set_option maxHeartbeats 1000000 in
theorem near_far (S Z : ByteArray) (n : Int) (k l j : Nat) (hl : S.size = l) (hkl : k = l + j) (hk : k ≤ 20000) (hZ : Z.size = j) (w : World)
    (cr : ∀ w, Calls Tryz.prog 27 #[.string ⟨#[48]⟩, .int .i64 (j : Int)] w fun e w' => e = .returned (.string Z) ∧ Below w.heap.size w w') :
    Calls Tryz.prog 108 #[.agg #[.string S, .int .i64 n], .int .i64 (k : Int)] w fun e w' => e = .returned (.string (S ++ Z)) ∧ Below w.heap.size w w' := by
  have k0 : ¬ (k : Int) < 0 := by omega
  have k1 : (l : Int) ≤ (k : Int) := by omega
  have hwj : IntKind.i64.wrap ((k : Int) - (l : Int)) = (j : Int) := by rw [IntKind.wrap_i64]; omega
  have hsz : l + j ≤ 20000 := by omega
  clear hkl
  go_enter Tryz.func108, Tryz.ntmps108
  go_wp2
  have hb0 : Below w.heap.size w (w.alloc (Obj.cells #[Value.string S, Value.int IntKind.i64 n] 46)) := (Below.refl _ _).alloc (Nat.le_refl _) _
  obtain ⟨W0, hW0⟩ : ∃ W0, W0 = w.alloc (Obj.cells #[Value.string S, Value.int IntKind.i64 n] 46) := ⟨_, rfl⟩
  have hc0 : W0.heap[w.heap.size]? = some (Obj.cells #[Value.string S, Value.int IntKind.i64 n] 46 (0, 0)) := by rw [hW0]; exact heap_alloc_new w _
  have c0 : W0.cell? ⟨w.heap.size, 0, none⟩ = some (.string S) := by simp [World.cell?, hc0]
  have hs0 : w.heap.size < W0.heap.size := lt_of_get hc0
  rw [← hW0] at hb0 ⊢
  have cz := cr W0.drew
  clear hW0 cr
  go_region_with (first | (go_at_call 27; go_fit cz; rintro e w2 ⟨rfl, hb2⟩; have c2 : w2.cell? ⟨w.heap.size, 0, none⟩ = some (.string S) := (hb2.cell (p := ⟨w.heap.size, 0, none⟩) hs0).trans c0))
  all_goals
    go_wp2
    go_ret
    exact ⟨rfl, hb0.trans ((Below.drew (Below.refl _ _)).trans (hb2.mono (Nat.le_refl _)) |>.mono (Nat.le_of_lt hs0))⟩
set_option maxRecDepth 100000 in
set_option maxHeartbeats 1000000 in
theorem near_low (S : ByteArray) (n : Int) (k l c : Nat) (hl : S.size = l) (hkl : k < l) (hk : l ≤ 20000) (h : k < S.size) (hc : (S[k]'h).toNat = c) (hc5 : c < 53) (w : World) :
    Calls Tryz.prog 108 #[.agg #[.string S, .int .i64 n], .int .i64 (k : Int)] w fun e w' => e = .returned (.string (S.extract 0 k)) ∧ Below w.heap.size w w' := by
  have k0 : ¬ (k : Int) < 0 := by omega
  have k1 : ¬ (l : Int) ≤ (k : Int) := by omega
  have k2 : (k : Int) < (l : Int) := by omega
  have k3 : (k : Int) ≤ (l : Int) := by omega
  have k5 : (c : Int) < 53 := by omega
  go_enter Tryz.func108, Tryz.ntmps108
  go_wp2
  go_ret
  exact ⟨rfl, (Below.refl _ _).alloc (Nat.le_refl _) _⟩
set_option maxRecDepth 100000 in
set_option maxHeartbeats 1000000 in
theorem near_high (S U : ByteArray) (n : Int) (k l c : Nat) (hl : S.size = l) (hkl : k < l) (hk : l ≤ 20000) (h : k < S.size) (hc : (S[k]'h).toNat = c) (hc5 : 53 ≤ c) (w : World)
    (cp : ∀ w, Calls Tryz.prog 156 #[.string (S.extract 0 k)] w fun e w' => e = .returned (.string U) ∧ Below w.heap.size w w') :
    Calls Tryz.prog 108 #[.agg #[.string S, .int .i64 n], .int .i64 (k : Int)] w fun e w' => e = .returned (.string U) ∧ Below w.heap.size w w' := by
  have k0 : ¬ (k : Int) < 0 := by omega
  have k1 : ¬ (l : Int) ≤ (k : Int) := by omega
  have k2 : (k : Int) < (l : Int) := by omega
  have k3 : (k : Int) ≤ (l : Int) := by omega
  have k5 : ¬ (c : Int) < 53 := by omega
  go_enter Tryz.func108, Tryz.ntmps108
  go_wp2_with (first | (go_at_call 156; refine (cp _).mono ?_; rintro e w2 ⟨rfl, hb2⟩))
  go_ret
  exact ⟨rfl, ((Below.refl w.heap.size w).alloc (Nat.le_refl _) _).trans (hb2.mono (by simp))⟩
end Go.Proofs.YtellndmbllmjgaaGreatDoor
/- nearest: which number its digits are. -/
set_option linter.unusedVariables false
namespace Go.Proofs.YtellndmbllmjgaaGreatDoor
open Go.RowKit Go.Shelf Go.Sort Fs Fl

theorem nDigits_ten (X : Nat) (h : 10 ≤ X) : Lib.nDigits X = Lib.nDigits (X / 10) + 1 := by
  have h1 := congrArg List.length (decN_big (d := X) (by omega))
  rw [List.length_append, decN_length, decN_length] at h1
  simpa using h1
theorem nDigits_small (X : Nat) (h : X < 10) : Lib.nDigits X = 1 := by
  have h1 := congrArg List.length (decN_small h)
  rw [decN_length] at h1
  simpa using h1
theorem decN_take : ∀ (j X k : Nat), 0 < k → k + j = Lib.nDigits X → (decN X).take k = decN (X / 10 ^ j)
  | 0, X, k, hk, h => by
    rw [Nat.pow_zero, Nat.div_one, List.take_of_length_le (by rw [decN_length]; omega)]
  | j + 1, X, k, hk, h => by
    rcases Nat.lt_or_ge X 10 with h1 | h1
    · have := nDigits_small X h1
      omega
    · have h2 := nDigits_ten X h1
      have h3 := decN_length (X / 10)
      rw [decN_big (d := X) (by omega), List.take_append_of_le_length (by omega), decN_take j (X / 10) k hk (by omega), Nat.div_div_eq_div_mul, Nat.pow_succ']
/-- The whole number nearest to X by 10 to the l, times 10 to the k; of two the greater. -/
def rndX (X l k : Nat) : Nat := if l ≤ k then X * 10 ^ (k - l) else (2 * X + 10 ^ (l - k)) / (2 * 10 ^ (l - k))
/-- Its digits; none for 0. -/
def digL (x : Nat) : List Nat := if x = 0 then [] else decN x
theorem rnd_low {X p : Nat} (hp : 0 < p) (h : 2 * (X % p) < p) : (2 * X + p) / (2 * p) = X / p := by
  have h1 := Nat.div_add_mod X p
  generalize X / p = q at *
  generalize X % p = r at *
  rw [Nat.div_eq_iff (by omega)]
  subst h1
  constructor <;> grind
theorem rnd_high {X p : Nat} (hp : 0 < p) (h : p ≤ 2 * (X % p)) : (2 * X + p) / (2 * p) = X / p + 1 := by
  have h1 := Nat.div_add_mod X p
  have h2 := Nat.mod_lt X hp
  generalize X / p = q at *
  generalize X % p = r at *
  rw [Nat.div_eq_iff (by omega)]
  subst h1
  constructor <;> grind
/-- The digit behind says it. -/
theorem digit_half (X j : Nat) : X / 10 ^ j % 10 < 5 ↔ 2 * (X % 10 ^ (j + 1)) < 10 ^ (j + 1) := by
  have hp : 0 < 10 ^ j := Nat.pow_pos (by omega)
  have e : X % 10 ^ (j + 1) = X % 10 ^ j + 10 ^ j * (X / 10 ^ j % 10) := by rw [Nat.pow_succ, Nat.mod_mul]
  have h2 := Nat.mod_lt X hp
  rw [e, Nat.pow_succ]
  generalize X / 10 ^ j % 10 = c at *
  generalize X % 10 ^ j = r at *
  generalize 10 ^ j = p at *
  constructor
  · intro h
    have : p * c ≤ p * 4 := Nat.mul_le_mul_left _ (by omega)
    omega
  · intro h
    rcases Nat.lt_or_ge c 5 with h3 | h3
    · exact h3
    · exfalso
      have : p * 5 ≤ p * c := Nat.mul_le_mul_left _ h3
      omega
/-- **nearest.** -/
theorem near_any (X : Nat) (hX : 0 < X) (hd : Lib.nDigits X ≤ 7000) (n k : Int) (hk1 : -9000 ≤ k) (hk2 : k ≤ 9000) (w : World) :
    Calls Tryz.prog 108 #[.agg #[.string (txt (decN X)), .int .i64 n], .int .i64 k] w fun e w' => e = .returned (.string (txt (if k < 0 then [] else digL (rndX X (Lib.nDigits X) k.toNat)))) ∧ Below w.heap.size w w' := by
  have hlen := decN_length X
  have hsz := txt_size (decN X)
  rw [hlen] at hsz
  rcases Int.lt_or_le k 0 with hk | hk
  · rw [if_pos hk]
    exact near_neg (txt (decN X)) n k hk w
  · rw [if_neg (by omega)]
    obtain ⟨kk, rfl⟩ : ∃ kk : Nat, k = (kk : Int) := ⟨k.toNat, by omega⟩
    rw [Int.toNat_natCast]
    have hnp := Lib.nDigits_pos X
    rcases Nat.lt_or_ge kk (Lib.nDigits X) with hlt | hge
    · obtain ⟨j, hj⟩ : ∃ j, Lib.nDigits X = kk + 1 + j := ⟨Lib.nDigits X - kk - 1, by omega⟩
      have hat := decN_at X kk hlt
      rw [show Lib.nDigits X - 1 - kk = j by omega] at hat
      have hcr : X / 10 ^ j % 10 < 10 := Nat.mod_lt _ (by omega)
      have hget := get_txt (decN X) (fun c hc => by have := dig_decN X c hc; omega) kk _ hat (by omega)
      have hex : (txt (decN X)).extract 0 kk = txt (digL (X / 10 ^ (j + 1))) := by
        have e1 : (txt (decN X)).extract 0 kk = txt ((decN X).take kk) := by
          have := ext_take ((decN X).take kk) ((decN X).drop kk)
          rw [List.take_append_drop, List.length_take, Nat.min_eq_left (by omega)] at this
          exact this
        rw [e1]
        unfold digL
        rcases Nat.eq_zero_or_pos kk with h0 | h0
        · subst h0
          have hx := lt_digits X
          rw [hj] at hx
          rw [show 0 + 1 + j = j + 1 by omega] at hx
          rw [Nat.div_eq_of_lt hx, if_pos rfl, List.take_zero]
        · have h1 := decN_take (j + 1) X kk h0 (by omega)
          rw [h1, if_neg]
          intro h2
          have h3 := congrArg List.length h1
          rw [h2, List.length_take, hlen, Nat.min_eq_left (by omega), decN_length, nDigits_small 0 (by omega)] at h3
          -- one digit alone, and that a nought: the first digit of X is none
          obtain ⟨c, l, hcl, hc1, hc2⟩ := decN_head X hX
          rw [hcl, h2, decN_small (by omega), h3] at h1
          simp at h1
          omega
      unfold rndX
      rw [if_neg (by omega), show Lib.nDigits X - kk = j + 1 by omega]
      have hp : 0 < 10 ^ (j + 1) := Nat.pow_pos (by omega)
      by_cases hc : X / 10 ^ j % 10 < 5
      · rw [rnd_low hp ((digit_half X j).1 hc)]
        have := near_low (txt (decN X)) n kk (Lib.nDigits X) _ hsz hlt (by omega) (by omega) hget (by omega) w
        rw [hex] at this
        exact this
      · rw [rnd_high hp (Nat.le_of_not_lt (fun h => hc ((digit_half X j).2 h)))]
        refine near_high (txt (decN X)) _ n kk (Lib.nDigits X) _ hsz hlt (by omega) (by omega) hget (by omega) w (fun w => ?_)
        rw [hex]
        unfold digL
        rw [if_neg (Nat.succ_ne_zero _)]
        rcases Nat.eq_zero_or_pos (X / 10 ^ (j + 1)) with h0 | h0
        · rw [h0, if_pos rfl]
          have := plus_none ⟨#[]⟩ ⟨#[]⟩ 0 (by omega) rfl rfl w (fun w => by
            have := Tryz.strings_TrimRight_one ⟨#[]⟩ 57 (by decide) w (by decide)
            exact this) (fun w => (zerosD_any 0 (by omega) w))
          have e : (⟨#[49]⟩ ++ ⟨#[]⟩ : ByteArray) = txt (decN (0 + 1)) := by rw [decN_small (by omega)]; rfl
          rw [e] at this
          exact this
        · rw [if_neg (by omega)]
          refine plus_any _ h0 ?_ w
          have h1 := lt_digits X
          have h2 : X / 10 ^ (j + 1) ≤ X := Nat.div_le_self _ _
          have := nDigits_le (X / 10 ^ (j + 1)) (Lib.nDigits X) (by omega) hnp
          omega
    · obtain ⟨j, hj⟩ : ∃ j, kk = Lib.nDigits X + j := ⟨kk - Lib.nDigits X, by omega⟩
      have h1 := near_far (txt (decN X)) (txt (List.replicate j 48)) n kk (Lib.nDigits X) j hsz hj (by omega) (by rw [txt_size]; simp) w (zerosD_any j (by omega))
      unfold rndX digL
      rw [if_pos hge, show kk - Lib.nDigits X = j by omega, if_neg (Nat.ne_of_gt (Nat.mul_pos hX (Nat.pow_pos (by omega)))), decN_shift X j hX, ← txt_append]
      exact h1
end Go.Proofs.YtellndmbllmjgaaGreatDoor
/- rounded. -/
set_option linter.unusedVariables false
namespace Go.Proofs.YtellndmbllmjgaaGreatDoor
open Go.RowKit Go.Shelf Go.Sort Fs Fl

theorem mixedR : Tryz.prog.follows Departure.mixedOrders = true := by kernel_rfl
set_option maxRecDepth 100000 in
set_option maxHeartbeats 1000000 in
theorem rounded_of (S U : ByteArray) (n : Int) (k m : Nat) (hU : U.size = m) (hkm : k ≤ m) (hm : m ≤ 20000) (hn1 : -20000 ≤ n) (hn2 : n ≤ 20000) (w : World)
    (cn : ∀ W, Below w.heap.size w W → Calls Tryz.prog 108 #[.agg #[.string S, .int .i64 n], .int .i64 (k : Int)] W fun e w' => e = .returned (.string U) ∧ Below W.heap.size W w') :
    Calls Tryz.prog 110 #[.agg #[.string S, .int .i64 n], .int .i64 (k : Int)] w fun e w' => e = .returned (.agg #[.string (U.extract 0 k), .int .i64 (n + (m : Int) - (k : Int))]) ∧ Below w.heap.size w w' := by
  have CN := (show Hid _ from cn)
  clear cn
  have k3 : (k : Int) ≤ (m : Int) := by omega
  go_enter Tryz.func110, Tryz.ntmps110
  go_wp2_with (first | (go_at_call 108; fail))
  obtain ⟨W0, hW0⟩ : ∃ W0, W0 = (w.alloc (Obj.cells #[Value.string S, Value.int IntKind.i64 n] 46)).alloc (Obj.cells #[Value.string ⟨#[]⟩, Value.int IntKind.i64 0] 46) := ⟨_, rfl⟩
  have hb0 : Below w.heap.size w W0 := by rw [hW0]; exact ((Below.refl _ _).alloc (Nat.le_refl _) _).alloc (by simp) _
  have h0 : W0.heap[w.heap.size]? = some (Obj.cells #[Value.string S, Value.int IntKind.i64 n] 46 (0, 0)) := by
    rw [hW0]
    exact (Below.heap_alloc _ _ _ (by simp)).trans (heap_alloc_new w _)
  have h1 : W0.heap[w.heap.size + 1]? = some (Obj.cells #[Value.string ⟨#[]⟩, Value.int IntKind.i64 0] 46 (0, 0)) := by
    rw [hW0]
    have := heap_alloc_new (w.alloc (Obj.cells #[Value.string S, Value.int IntKind.i64 n] 46)) (Obj.cells #[Value.string ⟨#[]⟩, Value.int IntKind.i64 0] 46)
    rw [World.size_alloc] at this
    exact this
  rw [← hW0]
  have cn := CN.out W0 hb0
  clear hW0 CN
  go_fit cn
  rintro e w1 ⟨rfl, hb1⟩
  have hz0 : w1.heap[w.heap.size]? = some (Obj.cells #[Value.string S, Value.int IntKind.i64 n] 46 (0, 0)) := (hb1.block _ (lt_of_get h0)).trans h0
  have hz1 : w1.heap[w.heap.size + 1]? = some (Obj.cells #[Value.string ⟨#[]⟩, Value.int IntKind.i64 0] 46 (0, 0)) := (hb1.block _ (lt_of_get h1)).trans h1
  have k0 : w1.cell? ⟨w.heap.size, 1, none⟩ = some (.int .i64 n) := by simp [World.cell?, hz0]
  have c0 : w1.cell? ⟨w.heap.size + 1, 0, none⟩ = some (.string ⟨#[]⟩) := by simp [World.cell?, hz1]
  have c1 : w1.cell? ⟨w.heap.size + 1, 1, none⟩ = some (.int .i64 0) := by simp [World.cell?, hz1]
  have f0 : w1.frozen? ⟨w.heap.size + 1, 0, none⟩ = false := by simp [World.frozen?, hz1]
  have f1 : w1.frozen? ⟨w.heap.size + 1, 1, none⟩ = false := by simp [World.frozen?, hz1]
  have hbw : Below w.heap.size w w1 := hb0.trans (hb1.mono hb0.size)
  clear cn h0 h1 hb0 hb1
  have hw1 : IntKind.i64.wrap (n + (m : Int)) = n + (m : Int) := by rw [IntKind.wrap_i64]; omega
  have hw2 : IntKind.i64.wrap (n + (m : Int) - (k : Int)) = n + (m : Int) - (k : Int) := by rw [IntKind.wrap_i64]; omega
  have mixed := mixedR
  go_wp2
  go_region
  all_goals
    go_wp2
    refine bodyPost_ret (results_cell_row rfl _ _ (w.heap.size + 1) 46 _ (0, 0) _ rfl (heap_two (w := w1.drew) hz1 _ _) Tryz.underlying46 rfl (by kernel_rfl)) rfl ?_
    exact ⟨rfl, (hbw.drew.setCell (by show w.heap.size ≤ w.heap.size + 1; omega) _).setCell (by show w.heap.size ≤ w.heap.size + 1; omega) _⟩
theorem pow_digits (X : Nat) (hX : 0 < X) : 10 ^ (Lib.nDigits X - 1) ≤ X := by
  obtain ⟨c, l, hcl, hc1, hc2⟩ := decN_head X hX
  have hlen := decN_length X
  have hv := vD_decN X
  rw [hcl, vD_cons] at hv
  rw [hcl, List.length_cons] at hlen
  rw [← hlen, Nat.add_sub_cancel]
  have : 10 ^ l.length ≤ (c - 48) * 10 ^ l.length := Nat.le_mul_of_pos_left _ (by omega)
  omega
theorem rndX_bounds (X k : Nat) (hX : 0 < X) (hk : 1 ≤ k) : 10 ^ (k - 1) ≤ rndX X (Lib.nDigits X) k ∧ rndX X (Lib.nDigits X) k ≤ 10 ^ k := by
  have h1 := pow_digits X hX
  have h2 := lt_digits X
  have hnp := Lib.nDigits_pos X
  unfold rndX
  split
  · rename_i h
    obtain ⟨j, hj⟩ : ∃ j, k = Lib.nDigits X + j := ⟨k - Lib.nDigits X, by omega⟩
    rw [show k - Lib.nDigits X = j by omega]
    constructor
    · rw [show k - 1 = Lib.nDigits X - 1 + j by omega, Nat.pow_add]
      exact Nat.mul_le_mul_right _ h1
    · rw [hj, Nat.pow_add]
      exact Nat.mul_le_mul_right _ (Nat.le_of_lt h2)
  · rename_i h
    obtain ⟨j, hj⟩ : ∃ j, Lib.nDigits X = k + j := ⟨Lib.nDigits X - k, by omega⟩
    rw [show Lib.nDigits X - k = j by omega]
    have hp : 0 < 10 ^ j := Nat.pow_pos (by omega)
    have e1 : 10 ^ (k - 1) * 10 ^ j ≤ X := by rw [← Nat.pow_add, show k - 1 + j = Lib.nDigits X - 1 by omega]; exact h1
    have e2 : X < 10 ^ k * 10 ^ j := by rw [← Nat.pow_add, ← hj]; exact h2
    constructor
    · rw [Nat.le_div_iff_mul_le (by omega)]
      generalize 10 ^ (k - 1) = a at *
      generalize 10 ^ j = p at *
      have : a * (2 * p) = 2 * (a * p) := by grind
      omega
    · apply Nat.le_of_lt_succ
      rw [Nat.div_lt_iff_lt_mul (by omega)]
      generalize 10 ^ k = a at *
      generalize 10 ^ j = p at *
      have : a.succ * (2 * p) = 2 * (a * p) + 2 * p := by rw [Nat.succ_eq_add_one]; grind
      omega
theorem nDigits_of (R k : Nat) (hk : 1 ≤ k) (h1 : 10 ^ (k - 1) ≤ R) (h2 : R < 10 ^ k) : Lib.nDigits R = k := by
  have h3 := nDigits_le R k h2 hk
  have h4 := lt_digits R
  rcases Nat.lt_or_ge (Lib.nDigits R) k with h5 | h5
  · exfalso
    have : 10 ^ Lib.nDigits R ≤ 10 ^ (k - 1) := Nat.pow_le_pow_right (by omega) (by omega)
    omega
  · omega
/-- **rounded.** -/
theorem rounded_any (X : Nat) (hX : 0 < X) (hd : Lib.nDigits X ≤ 7000) (n : Int) (hn1 : -20000 ≤ n) (hn2 : n ≤ 20000) (k : Nat) (hk : 1 ≤ k) (hk2 : k ≤ 9000) (w : World) :
    Calls Tryz.prog 110 #[.agg #[.string (txt (decN X)), .int .i64 n], .int .i64 (k : Int)] w fun e w' => e = .returned (.agg #[.string (txt (decN (if rndX X (Lib.nDigits X) k = 10 ^ k then 10 ^ (k - 1) else rndX X (Lib.nDigits X) k))), .int .i64 (n + (if rndX X (Lib.nDigits X) k = 10 ^ k then 1 else 0))]) ∧ Below w.heap.size w w' := by
  have cn := fun W (_ : Below w.heap.size w W) => near_any X hX hd n (k : Int) (by omega) (by omega) W
  rw [if_neg (show ¬ (k : Int) < 0 by omega), Int.toNat_natCast] at cn
  obtain ⟨b1, b2⟩ := rndX_bounds X k hX hk
  generalize rndX X (Lib.nDigits X) k = R at *
  have hp : 0 < 10 ^ (k - 1) := Nat.pow_pos (by omega)
  have hdl : digL R = decN R := by unfold digL; rw [if_neg (by omega)]
  rw [hdl] at cn
  have hsz := txt_size (decN R)
  rw [decN_length] at hsz
  by_cases hR : R = 10 ^ k
  · have hnd : Lib.nDigits R = k + 1 := nDigits_of R (k + 1) (by omega) (by rw [Nat.add_sub_cancel]; omega) (by rw [hR]; exact Nat.pow_lt_pow_right (by omega) (by omega))
    rw [if_pos hR, if_pos hR]
    rw [hnd] at hsz
    refine (rounded_of (txt (decN X)) (txt (decN R)) n k (k + 1) hsz (by omega) (by omega) hn1 hn2 w cn).mono ?_
    rintro e w' ⟨rfl, hb⟩
    refine ⟨?_, hb⟩
    have e1 : (txt (decN R)).extract 0 k = txt (decN (10 ^ (k - 1))) := by
      have h1 : decN R = decN (10 ^ (k - 1)) ++ [48] := by
        have := decN_shift (10 ^ (k - 1)) 1 hp
        rw [← Nat.pow_add, show k - 1 + 1 = k by omega, ← hR] at this
        exact this
      have h2 := ext_take (decN (10 ^ (k - 1))) [48]
      rw [← h1, decN_length, nDigits_of (10 ^ (k - 1)) k hk (Nat.le_refl _) (Nat.pow_lt_pow_right (by omega) (by omega))] at h2
      exact h2
    rw [e1]
    have e2 : n + ((k + 1 : Nat) : Int) - (k : Int) = n + 1 := by omega
    rw [e2]
  · have hnd : Lib.nDigits R = k := nDigits_of R k hk b1 (by omega)
    rw [if_neg hR, if_neg hR]
    rw [hnd] at hsz
    refine (rounded_of (txt (decN X)) (txt (decN R)) n k k hsz (by omega) (by omega) hn1 hn2 w cn).mono ?_
    rintro e w' ⟨rfl, hb⟩
    refine ⟨?_, hb⟩
    have e1 : (txt (decN R)).extract 0 k = txt (decN R) := by
      have := ext_all (decN R)
      rw [hsz] at this
      exact this
    rw [e1]
    have e2 : n + (k : Int) - (k : Int) = n + 0 := by omega
    rw [e2]
end Go.Proofs.YtellndmbllmjgaaGreatDoor
