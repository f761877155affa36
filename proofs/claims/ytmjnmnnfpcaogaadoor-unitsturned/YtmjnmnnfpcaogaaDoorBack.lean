/- The walk of the law UnitsBack. -/
import Derived.Test.YtmjnmnnfpcaogaaDoorSame
set_option linter.unusedVariables false
namespace Go.Proofs.YtmjnmnnfpcaogaaDoor
open Go.RowKit Go.Shelf

theorem row16_of_owns {W : World} {base : Nat} {v : Value} {us : List Nat} (h : W.ownsRow base 24 1 v us.length (us.map uv)) : Row16 W.heap.size W v us := by
  rcases h.2 with ⟨rfl, h0⟩ | ⟨g, cap, cur, rfl, _, hgb, _⟩
  · exact .inl ⟨⟨_, _, rfl⟩, List.eq_nil_of_length_eq_zero h0⟩
  · refine .inr ⟨g, 0, cap, rfl, (h.lt g rfl).2, fun j hj => ?_⟩
    have := h.cells (g := g) rfl j (uv us[j]) (by simp [hj])
    have e : ((⟨g, 0, none⟩ : Addr).add j) = ⟨g, 0 + j, none⟩ := by
      unfold Addr.add
      split <;> simp_all
    rw [e] at this
    rw [this, List.getElem?_eq_getElem hj]
    rfl

theorem Row16.mono {n m : Nat} {W : World} {sv : Value} {us : List Nat} (h : Row16 n W sv us) (hm : n ≤ m) : Row16 m W sv us := by
  rcases h with e | ⟨b, off, cap, e, hb, hc⟩
  · exact .inl e
  · exact .inr ⟨b, off, cap, e, by omega, hc⟩
theorem bytes_txt (us : List Nat) (hu : ∀ u ∈ us, u < 65536) : bytes (txt us) = txtB us := by
  have hb : ∀ b ∈ txtB us, b < 256 := by
    intro b hb
    obtain ⟨r, hr, hb⟩ := List.mem_flatMap.1 hb
    exact Un.encR_lt r (Un.pts_lt us hu r hr) b hb
  show ((txtB us).map UInt8.ofNat).map UInt8.toNat = txtB us
  rw [List.map_map]
  refine (List.map_congr_left (g := id) (fun b h => ?_)).trans (List.map_id _)
  simp [UInt8.toNat_ofNat', Nat.mod_eq_of_lt (hb b h)]
theorem unitsS_txt (us : List Nat) (hu : ∀ u ∈ us, u < 65536) : unitsS (txt us) = us := by
  unfold unitsS
  rw [bytes_txt us hu]
  exact Un.unitsL_back us hu _ (by rw [← bytes_len, bytes_txt us hu]; exact Nat.le_refl _)
theorem pts_length : ∀ (l : List Nat), (Un.pts l).length ≤ l.length
  | [] => by simp [Un.pts]
  | [u] => by simp [Un.pts]
  | u :: v :: t => by
    unfold Un.pts
    split
    · have := pts_length t; simp; omega
    · have := pts_length (v :: t); simp at this ⊢; omega
theorem flat_length : ∀ (l : List Nat), (l.flatMap Un.encR).length ≤ 4 * l.length
  | [] => by simp
  | r :: l => by
    have := flat_length l
    have := (Un.encR_len r).2
    rw [List.flatMap_cons, List.length_append, List.length_cons]
    omega
theorem txt_size (us : List Nat) (hu : ∀ u ∈ us, u < 65536) : (txt us).size ≤ 4 * us.length := by
  rw [← bytes_len, bytes_txt us hu]
  have h1 := flat_length (Un.pts us)
  have h2 := pts_length us
  unfold txtB
  omega

set_option maxRecDepth 100000 in
set_option maxHeartbeats 1000000 in
theorem back_great (a : Option Addr) (len cap : Nat) (h : 4000 < len) (hm : len ≤ maxLen) (w : World) :
    Calls Tryd.prog 4 #[.slice a len cap] w fun e w' => e = .returned (.bool true) ∧ Below w.heap.size w w' := by
  unfold maxLen at hm
  have h' : (4000 : Int) < (len : Int) := by omega
  go_enter Tryd.func4, Tryd.ntmps4
  go_wp2
  go_ret
  exact ⟨rfl, Below.refl _ _⟩

set_option maxRecDepth 100000 in
set_option maxHeartbeats 2000000 in
theorem back_small (sv : Value) (us : List Nat) (hu : ∀ u ∈ us, u < 65536) (hlen : us.length ≤ 4000) (w : World) (hR : Row16 w.heap.size w sv us) (hT : Lib.Utf8Tabs 1 2 w) :
    Calls Tryd.prog 4 #[sv] w fun e w' => e = .returned (.bool true) ∧ Below w.heap.size w w' := by
  obtain ⟨i0, hi, hz0, hz1, hz2⟩ := info_parts info24
  have hk : ¬ (4000 : Int) < (us.length : Int) := by omega
  have hts := txt_size us hu
  have hback := unitsS_txt us hu
  obtain ⟨tx, htx⟩ : ∃ tx, txt us = tx := ⟨_, rfl⟩
  rw [htx] at hts hback
  have cT : ∀ v W, Row16 W.heap.size W v us → Calls Tryd.prog 8 #[v] W fun e W' => e = .returned (.string tx) ∧ Below W.heap.size W W' := fun v W h => by
    have := text_any v us hu (by omega) W h
    rwa [htx] at this
  have cU : ∀ W, Lib.Utf8Tabs 1 2 W → Calls Tryd.prog 5 #[.string tx] W fun e w' => ∃ v, e = .returned v ∧ w'.ownsRow W.heap.size 24 1 v us.length (us.map uv) ∧ (v = .slice none 0 0 ↔ us = []) ∧ Below W.heap.size W w' := fun W h => by
    have := units_any tx (by omega) W h
    rwa [hback] at this
  have cS : ∀ a b W, Row16 W.heap.size W a us → Row16 W.heap.size W b us → Calls Tryd.prog 7 #[a, b] W fun e w' => e = .returned (.bool true) ∧ Below W.heap.size W w' := fun a b W h1 h2 => by
    have := same_any a b us us (by omega) (by omega) W h1 h2
    simpa using this
  clear htx hback
  have kT := (show Hid _ from cT)
  have kU := (show Hid _ from cU)
  have kS := (show Hid _ from cS)
  clear cT cU cS
  obtain ⟨sa, sc, rfl⟩ := hR.slice
  have hR0 := hR
  cases sa with
  | none =>
    obtain rfl : us = [] := by
      rcases hR with ⟨_, hun⟩ | ⟨b, off, cap, e, hb, hc⟩
      · exact hun
      · cases e
    have hRn : ∀ n W, Row16 n W (.slice none 0 0) [] := fun n W => .inl ⟨⟨_, _, rfl⟩, rfl⟩
    have hRl : ∀ n W, Row16 n W (.slice none 0 sc) [] := fun n W => .inl ⟨⟨_, _, rfl⟩, rfl⟩
    have kN := (show Hid _ from hRn)
    have kL := (show Hid _ from hRl)
    clear hRn hRl hR0 hR
    go_enter Tryd.func4, Tryd.ntmps4
    go_wp2_with fail
    refine (kT.out _ _ (kN.out _ _)).mono ?_
    rintro e w1 ⟨rfl, hb1⟩
    go_wp2_with fail
    refine (kU.out _ (tabs_below hT hb1)).mono ?_
    rintro e w2 ⟨v2, rfl, hown2, hnil, hb2⟩
    obtain rfl := hnil.2 (by simp)
    clear hnil
    have hB2 := hb1.trans (hb2.mono hb1.size)
    go_wp2_with fail
    refine (kS.out _ _ _ (kL.out _ _) (kN.out _ _)).mono ?_
    rintro e w3 ⟨rfl, hb3⟩
    have hB3 := hB2.trans (hb3.mono hB2.size)
    go_wp2_with fail
    refine (kS.out _ _ _ (kL.out _ _) (kN.out _ _)).mono ?_
    rintro e w4 ⟨rfl, hb4⟩
    go_wp2
    go_ret
    exact ⟨rfl, hB3.trans (hb4.mono hB3.size)⟩
  | some ad =>
    have hc1 : ∀ j u, (us.map uv)[j]? = some u → w.cell? (ad.add j) = some u := by
      rcases hR with ⟨_, hun⟩ | ⟨b, off, cap, e, hb, hc⟩
      · subst hun
        intro j u hj
        simp at hj
      · cases e
        intro j u hj
        have hj' : j < us.length := by
          have := (List.getElem?_eq_some_iff.1 hj).1
          simpa using this
        have e : ((⟨b, off, none⟩ : Addr).add j) = ⟨b, off + j, none⟩ := by
          unfold Addr.add
          split <;> simp_all
        rw [e, hc j hj']
        rw [List.getElem?_map, List.getElem?_eq_getElem hj'] at hj
        rw [List.getElem?_eq_getElem hj']
        exact hj
    have hc2 : ∀ u ∈ us.map uv, u.oneCell' = true := by
      intro u hu'
      obtain ⟨x, _, rfl⟩ := List.mem_map.1 hu'
      rfl
    have hq : 0 + us.length ≤ maxLen := by unfold maxLen; omega
    have q1 := (show Hid _ from hc1)
    have q2 := (show Hid _ from hc2)
    clear hc1 hc2 hu hR
    go_enter Tryd.func4, Tryd.ntmps4
    go_wp2_with (at_builtin; refine wpList_append_own _ rfl _ _ 22 rfl w.heap.size 24 i0 (.int .u16 0) 1 2 Tryd.underlying22 hi hz0 hz1 hz2 rfl (by decide) _ 0 [] rfl (World.ownsRow_nil _ _ _ _) ad us.length sc (us.map uv) rfl (by simp) q1.out q2.out hq (by omega) (Nat.le_refl _) ?_; intro v1 w0 hown hgrow hnil1; clear hnil1; simp only [Nat.zero_add, List.nil_append] at hown)
    have hB0 : Below w.heap.size w w0 := (Below.refl _ w).grown hgrow (Nat.le_refl _) (fun k e => by cases e)
    refine (kT.out _ _ (row16_of_owns hown)).mono ?_
    rintro e w1 ⟨rfl, hb1⟩
    have hB1 := hB0.trans (hb1.mono hB0.size)
    go_wp2_with fail
    refine (kU.out _ (tabs_below hT hB1)).mono ?_
    rintro e w2 ⟨v2, rfl, hown2, hnil, hb2⟩
    clear hnil
    have hB2 := hB1.trans (hb2.mono hB1.size)
    have hb02 := hb1.trans (hb2.mono hb1.size)
    go_wp2_with fail
    refine (kS.out _ _ _ ((hR0.below hB2).mono hB2.size) (((row16_of_owns hown).below hb02).mono hb02.size)).mono ?_
    rintro e w3 ⟨rfl, hb3⟩
    have hB3 := hB2.trans (hb3.mono hB2.size)
    go_wp2_with fail
    refine (kS.out _ _ _ ((hR0.below hB3).mono hB3.size) (((row16_of_owns hown2).below hb3).mono hb3.size)).mono ?_
    rintro e w4 ⟨rfl, hb4⟩
    go_wp2
    go_ret
    exact ⟨rfl, hB3.trans (hb4.mono hB3.size)⟩
end Go.Proofs.YtmjnmnnfpcaogaaDoor
