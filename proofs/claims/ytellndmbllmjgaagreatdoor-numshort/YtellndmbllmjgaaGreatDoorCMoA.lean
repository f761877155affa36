/- The law's more: one more in the last place. -/
import Derived.Test.YtellndmbllmjgaaGreatDoorCNbA
import Derived.Laws.IdiomStrings
set_option linter.unusedVariables false
namespace Go.Proofs.YtellndmbllmjgaaGreatDoor
open Go.RowKit Go.Shelf Go.Sort Fs Fl

/-- Block g holds the bytes L at its front. -/
def B8 (w : World) (g : Nat) (L : List Nat) : Prop := ∃ C : Array Value, w.heap[g]? = some (Obj.cells C 5 (C.size, C.size + 1)) ∧ L.length ≤ C.size ∧ ∀ j, j < L.length → C[j]? = some (bv (L[j]?.getD 0))
theorem B8.cell {w : World} {g : Nat} {L : List Nat} (h : B8 w g L) (j : Nat) (hj : j < L.length) : w.cell? ⟨g, j, none⟩ = some (.int .u8 ((L[j]?.getD 0 : Nat) : Int)) := by
  obtain ⟨C, h1, h2, h3⟩ := h
  have e : w.cell? ⟨g, j, none⟩ = C[j]? := by
    unfold World.cell?
    simp only [h1]
    rfl
  rw [e]
  exact h3 j hj
theorem B8.frozen {w : World} {g : Nat} {L : List Nat} (h : B8 w g L) (j : Nat) (hj : j < L.length) : w.frozen? ⟨g, j, none⟩ = false := by
  obtain ⟨C, h1, h2, h3⟩ := h
  simp [World.frozen?, h1]
  omega
theorem B8.set {w : World} {g : Nat} {L : List Nat} (h : B8 w g L) (j d : Nat) : B8 (w.setCell ⟨g, j, none⟩ (.int .u8 (d : Int))) g (L.set j d) := by
  obtain ⟨C, h1, h2, h3⟩ := h
  refine ⟨C.setIfInBounds j (.int .u8 (d : Int)), ?_, by simpa using h2, ?_⟩
  · rw [setCell_eq]
    simp only [mapBlock, Array.getElem?_modify, if_true]
    rw [h1]
    simp [onCells]
  · intro i hi
    rw [List.length_set] at hi
    rw [Array.getElem?_setIfInBounds]
    by_cases hij : j = i
    · subst hij
      rw [if_pos rfl, if_pos (by omega), List.getElem?_set_self hi]
      rfl
    · rw [if_neg hij, List.getElem?_set_ne hij]
      exact h3 i hi
theorem B8.drewN {w : World} {g n : Nat} {L : List Nat} (h : B8 w g L) : B8 (w.drewN n) g L := h
theorem B8.start (w : World) (L : List Nat) (hL : ∀ c ∈ L, c < 256) (cap : Nat) : B8 (w.drew.alloc (.cells (bytesRow (txt L) cap) 5 ((bytesRow (txt L) cap).size, (bytesRow (txt L) cap).size + 1))) w.heap.size L := by
  refine ⟨bytesRow (txt L) cap, ?_, ?_, ?_⟩
  · have := heap_alloc_new w.drew (.cells (bytesRow (txt L) cap) 5 ((bytesRow (txt L) cap).size, (bytesRow (txt L) cap).size + 1))
    exact this
  · unfold bytesRow
    simp [txt]
  · intro j hj
    have hs : j < (txt L).data.size := by simpa [txt] using hj
    rw [bytesRow_at _ _ _ hs]
    have := hL _ (List.getElem_mem hj)
    rw [List.getElem?_eq_getElem hj]
    simp [txt, bv, UInt8.toNat_ofNat', Nat.mod_eq_of_lt this]
theorem B8.conv {w : World} {g cap : Nat} {L : List Nat} (h : B8 w g L) (hL : ∀ c ∈ L, c < 256) (n : Nat) (hn : n = L.length) :
    (convert 92 9 (.slice (some ⟨g, 0, none⟩) n cap)).run Tryz.prog w = .ok (.string (txt L)) w := by
  subst hn
  have := run_convert_bytes_back (P := Tryz.prog) w 92 9 5 ⟨g, 0, none⟩ cap (L.map UInt8.ofNat) Tryz.underlying92 Tryz.underlying5 Tryz.underlying9 (fun j hj => by
    rw [List.length_map] at hj
    have e : (⟨g, 0, none⟩ : Addr).add j = ⟨g, j, none⟩ := by unfold Addr.add; split <;> simp_all
    rw [e, h.cell j hj]
    have h2 := hL _ (List.getElem_mem hj)
    rw [List.getElem?_eq_getElem hj]
    simp [List.getElem_map, UInt8.toNat_ofNat', Nat.mod_eq_of_lt h2])
  simpa [txt] using this
/-- The digits, with k of them still to be looked at. -/
def moL (D : List Nat) (k : Nat) : List Nat := D.take k ++ List.replicate (D.length - k) 48
theorem moL_len (D : List Nat) (k : Nat) (h : k ≤ D.length) : (moL D k).length = D.length := by unfold moL; simp; omega
theorem moL_at (D : List Nat) (j c : Nat) (h : D[j]? = some c) : (moL D (j + 1))[j]?.getD 0 = c := by
  have hj : j < D.length := (List.getElem?_eq_some_iff.1 h).1
  unfold moL
  rw [List.getElem?_append_left (by simp; omega), List.getElem?_take_of_lt (by omega), h]
  rfl
theorem moL_set (D : List Nat) (j c : Nat) (h : j < D.length) : (moL D (j + 1)).set j c = D.take j ++ [c] ++ List.replicate (D.length - (j + 1)) 48 := by
  unfold moL
  rw [List.take_succ_eq_append_getElem h, List.append_assoc, List.set_append_right _ _ (by simp; omega)]
  simp [Nat.min_eq_left (Nat.le_of_lt h)]
theorem moL_next (D : List Nat) (j : Nat) (h : j < D.length) : (moL D (j + 1)).set j 48 = moL D j := by
  rw [moL_set D j 48 h]
  unfold moL
  rw [show D.length - j = (D.length - (j + 1)) + 1 by omega, List.replicate_succ, List.append_assoc]
  rfl
theorem nines_next (D : List Nat) (j : Nat) (h : D[j]? = some 57) (h2 : D.drop (j + 1) = List.replicate (D.length - (j + 1)) 57) : D.drop j = List.replicate (D.length - j) 57 := by
  obtain ⟨hj, he⟩ := List.getElem?_eq_some_iff.1 h
  rw [List.drop_eq_getElem_cons hj, he, h2, show D.length - j = (D.length - (j + 1)) + 1 by omega, List.replicate_succ]
/-- What more answers, where a digit is no nine. -/
theorem more_some (d j c : Nat) (h0 : 0 < d) (h : (decN d)[j]? = some c) (hc : c ≠ 57) (h2 : (decN d).drop (j + 1) = List.replicate ((decN d).length - (j + 1)) 57) : (moL (decN d) (j + 1)).set j (c + 1) = decN (d + 1) := by
  have hdig := dig_decN d
  obtain ⟨a, l, hal, ha1, ha2⟩ := decN_head d h0
  have hv := vD_decN d
  generalize decN d = D at h h2 hal hdig hv ⊢
  obtain ⟨hj, he⟩ := List.getElem?_eq_some_iff.1 h
  have hcr := hdig c (List.mem_of_getElem? h)
  rw [moL_set D j (c + 1) hj]
  have e1 : D = D.take j ++ [c] ++ List.replicate (D.length - (j + 1)) 57 := by
    rw [← h2, List.append_assoc, ← he, List.singleton_append, ← List.drop_eq_getElem_cons hj, List.take_append_drop]
  have e2 := vD_more (D.take j) c (D.length - (j + 1)) hcr.1
  rw [← e1, hv] at e2
  obtain ⟨U, hU⟩ : ∃ U, U = D.take j ++ [c + 1] ++ List.replicate (D.length - (j + 1)) 48 := ⟨_, rfl⟩
  rw [← hU] at e2 ⊢
  have hUd : Dig U := by
    rw [hU]
    refine ((hdig.take j).append ?_).append (dig_zeros _)
    intro x hx
    simp at hx
    omega
  have hhead : ∃ b m, U = b :: m ∧ 48 < b := by
    rw [hU]
    cases j with
    | zero => exact ⟨c + 1, _, rfl, by omega⟩
    | succ j => rw [hal]; exact ⟨a, _, rfl, by omega⟩
  obtain ⟨b, m, hbm, hb⟩ := hhead
  rw [← e2, hbm]
  rw [hbm] at hUd
  exact (decN_of b m hUd hb).symm
/-- What more answers, where all are nines. -/
theorem more_none (d : Nat) (h2 : (decN d).drop 0 = List.replicate ((decN d).length - 0) 57) : 49 :: moL (decN d) 0 = decN (d + 1) := by
  rw [List.drop_zero, Nat.sub_zero] at h2
  have e := vD_over (decN d).length
  rw [← h2, vD_decN] at e
  unfold moL
  rw [List.take_zero, List.nil_append, Nat.sub_zero, ← e]
  refine (decN_of 49 _ ?_ (by omega)).symm
  have := (show Dig [49] by intro x hx; simp at hx; omega).append (dig_zeros (decN d).length)
  exact this
end Go.Proofs.YtellndmbllmjgaaGreatDoor
/- The law's more, walked. -/
set_option linter.unusedVariables false
namespace Go.Proofs.YtellndmbllmjgaaGreatDoor
open Go.RowKit Go.Shelf Go.Sort Fs Fl

inductive MoR (w : World) (D : List Nat) (n : Nat) : Value → World → Prop
  | mk (k : Nat) (W : World) (hk : k ≤ n) (hB : B8 W w.heap.size (moL D k)) (h9 : D.drop k = List.replicate (n - k) 57) (hb : Below w.heap.size w W) : MoR w D n (.int .i64 ((k : Int) - 1)) W
set_option maxRecDepth 100000 in
set_option maxHeartbeats 1000000 in
theorem more_any (d : Nat) (h0 : 0 < d) (hd : d < 1152921504606846976) (w : World) :
    Calls Tryz.prog 24 #[.string (txt (decN d))] w fun r w' => r = .returned (.string (txt (decN (d + 1)))) ∧ Below w.heap.size w w' := by
  have hnl : Lib.nDigits d ≤ 19 := nDigits_le d 19 (by omega) (by omega)
  have hnp := Lib.nDigits_pos d
  have hlen := decN_length d
  obtain ⟨D, hD⟩ : ∃ D, D = decN d := ⟨_, rfl⟩
  obtain ⟨n, hn⟩ : ∃ n, n = D.length := ⟨_, rfl⟩
  have hdig := dig_decN d
  have MS := fun j c => more_some d j c h0
  have MN := more_none d
  rw [← hD] at hdig hlen MS MN
  rw [← hn] at hlen MS MN
  have hn1 : n ≤ 19 := by omega
  have hn0 : 0 < n := by omega
  rw [← hD]
  obtain ⟨S, hS⟩ : ∃ S, S = txt D := ⟨_, rfl⟩
  have hSn : S.size = n := by rw [hS, txt_size, hn]
  obtain ⟨cap, hcap⟩ : ∃ cap, cap = grownCap w S.size 0 5 := ⟨_, rfl⟩
  have hst := B8.start w D (fun c hc => by have := hdig c hc; omega) cap
  have hcv := run_bytes_of_string (P := Tryz.prog) w 9 92 5 S Tryz.underlying9 Tryz.underlying92 Tryz.underlying5
  rw [← hcap, hSn] at hcv
  rw [← hS] at hst ⊢
  obtain ⟨W0, hW0⟩ : ∃ W0, W0 = w.drew.alloc (.cells (bytesRow S cap) 5 ((bytesRow S cap).size, (bytesRow S cap).size + 1)) := ⟨_, rfl⟩
  rw [← hW0] at hst hcv
  have hb0 : Below w.heap.size w W0 := by rw [hW0]; exact (Below.refl _ _).drew.alloc (Nat.le_refl _) _
  have HMS := (show Hid _ from MS)
  have HMN := (show Hid _ from MN)
  have HD : Hid (D = decN d) := hD
  have HN : Hid (n = D.length) := hn
  have HG := (show Hid _ from hdig)
  clear MS MN hD hn hdig hW0 hcap hlen hnl hnp hS
  have hB0 : Hid (B8 W0 w.heap.size (moL D n)) := by
    show B8 W0 w.heap.size (moL D n)
    unfold moL
    rw [HN.out, List.take_length, Nat.sub_self, List.replicate_zero, List.append_nil]
    exact hst
  clear hst
  go_enter Tryz.func24, Tryz.ntmps24
  go_wp2
  go_loopw [4] (fun vi wr => MoR w D n vi wr) (fun vi _ => (RowKit.intOf vi + 1).toNat)
  case atStart => exact .mk n _ (Nat.le_refl _) hB0.out (by rw [HN.out]; simp) hb0
  case round =>
    clear hb0 hB0
    obtain ⟨k, wr, hk, hB, h9, hbw⟩ := hrel
    have HB : Hid (B8 wr w.heap.size (moL D k)) := hB
    have H9 : Hid (D.drop k = List.replicate (n - k) 57) := h9
    clear hB h9
    rcases Nat.eq_zero_or_pos k with h00 | h00
    · subst h00
      have hm := HMN.out H9.out
      have hlen : n = (moL D 0).length := by rw [moL_len D 0 (by omega)]; exact HN.out
      have hcv2 := HB.out.conv (cap := cap) (fun c hc => by unfold moL at hc; rw [List.take_zero, List.nil_append] at hc; have := List.eq_of_mem_replicate hc; omega) n hlen
      have HM : Hid (49 :: moL D 0 = decN (d + 1)) := hm
      have hsz := txt_size (moL D 0)
      rw [← hlen] at hsz
      clear hm hlen hcv
      obtain ⟨B2, hB2⟩ : ∃ B2, B2 = txt (moL D 0) := ⟨_, rfl⟩
      rw [← hB2] at hcv2 hsz
      have HB2 : Hid (B2 = txt (moL D 0)) := hB2
      clear hB2
      go_wp2
      go_ret
      refine ⟨?_, hbw⟩
      have a1 : (⟨#[49]⟩ : ByteArray) = txt [49] := rfl
      rw [HB2.out, a1, txt_append, ← HM.out]
      rfl
    · obtain ⟨j, rfl⟩ : ∃ j, k = j + 1 := ⟨k - 1, by omega⟩
      have hjD : j < D.length := by rw [← HN.out]; omega
      obtain ⟨c, hc⟩ : ∃ c, D[j]? = some c := ⟨_, List.getElem?_eq_getElem hjD⟩
      have hcr := HG.out c (List.mem_of_getElem? hc)
      have hlm : j < (moL D (j + 1)).length := by rw [moL_len D (j + 1) (by omega)]; exact hjD
      have hcell := HB.out.cell j hlm
      rw [moL_at D j c hc] at hcell
      have hfz := HB.out.frozen j hlm
      have HC : Hid (D[j]? = some c) := hc
      have k1 : (j : Int) < (n : Int) := by omega
      have ej : ((j + 1 : Nat) : Int) - 1 = (j : Int) := by omega
      rw [ej]
      clear hc hlm hjD hcv
      by_cases h57 : c = 57
      · subst h57
        go_wp2
        have hst := HB.out.set j 48
        rw [moL_next D j (by rw [← HN.out]; omega)] at hst
        refine ⟨.mk j _ (by omega) hst ?_ (hbw.setCell (Nat.le_refl _) _), by simp only [RowKit.intOf]; omega⟩
        have h9 := nines_next D j HC.out (by rw [← HN.out]; exact H9.out)
        rw [← HN.out] at h9
        exact h9
      · have hne : ((c : Int) == 57) = false := by rw [beq_eq_false_iff_ne]; omega
        have hst := HB.out.set j (c + 1)
        have hm := HMS.out j c HC.out h57 H9.out
        rw [hm] at hst
        have hlen : n = (decN (d + 1)).length := by rw [← hm, List.length_set, moL_len D (j + 1) (by rw [← HN.out]; omega)]; exact HN.out
        have hcv2 := hst.conv (cap := cap) (fun x hx => by have := dig_decN (d + 1) x hx; omega) n hlen
        have ec : (((c + 1 : Nat)) : Int) = (c : Int) + 1 := by omega
        rw [ec] at hcv2
        clear hst hm hlen HMS HMN
        have kj : decide ((j : Int) < 0) = false := decide_eq_false (by omega)
        obtain ⟨B2, hB2⟩ : ∃ B2, B2 = txt (decN (d + 1)) := ⟨_, rfl⟩
        rw [← hB2] at hcv2
        have HB2 : Hid (B2 = txt (decN (d + 1))) := hB2
        clear hB2
        go_wp2
        go_ret
        exact ⟨by rw [HB2.out]; rfl, hbw.setCell (Nat.le_refl _) _⟩
end Go.Proofs.YtellndmbllmjgaaGreatDoor
