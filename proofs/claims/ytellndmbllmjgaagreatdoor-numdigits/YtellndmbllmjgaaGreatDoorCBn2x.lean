/- Digits go in behind; Nat. -/
import Derived.Test.YtellndmbllmjgaaGreatDoorCFl2x
set_option linter.unusedVariables false
namespace Go.Proofs.YtellndmbllmjgaaGreatDoor
open Go.RowKit Go.Shelf Go.Sort Fs Fl

theorem info108 : (Tryz.prog.info? 108).map (fun i => (i.zero, i.size, i.bytes)) = some (some (.int .u32 0), 1, 4) := by kernel_rfl
def dv (d : Nat) : Value := .int .u32 (d : Int)
section
variable {ops : Array Oper} {rest : List Oper} {o : Oper} {a : Act} {Q : Exit → Act → World → Prop}
theorem app32 (hgd : o.guard = none) (s x : Operand) (ho : o.op = .call { callee := .builtin .append, args := #[s, x], argTypes := #[53, 53] })
    (base n : Nat) (v : Value) (xs : List Value) (w0 w : World) (z : Int) (hown : w.ownsRow base 108 1 v n xs) (hs : a.eval s = v) (hx : a.eval x = .slice (some ⟨w.heap.size, 0, none⟩) 1 1)
    (hn : n + 1 ≤ 1000000) (hb : base ≤ w0.heap.size) (hbw : Below base w0 w)
    (h : ∀ v' w', w'.ownsRow base 108 1 v' (n + 1) (xs ++ [.int .u32 z]) → Below base w0 w' → wpList Tryz.prog ops Q rest (a.put o.dst v') w') :
    wpList Tryz.prog ops Q (o :: rest) a (w.alloc (.cells #[.int .u32 z] 108)) := by
  obtain ⟨i0, hi, hz0, hz1, hz2⟩ := info_parts info108
  have hsz := hbw.size
  have hb1 := hbw.alloc (Nat.le_trans hb hbw.size) (Obj.cells #[.int .u32 z] 108)
  have hown1 := hown.alloc (Obj.cells #[.int .u32 z] 108)
  refine wpList_append_own _ hgd s x 53 ho base 108 i0 (.int .u32 0) 1 4 Tryz.underlying53 hi hz0 hz1 hz2 rfl (by decide) v n xs hs hown1 ⟨w.heap.size, 0, none⟩ 1 1 [.int .u32 z] hx rfl (cells_new w [.int .u32 z] 108) (one_ints .u32 [z]) (max_small hn) (by omega) (by simp; omega) ?_
  intro v' w' hown' hgrow _
  exact h v' w' hown' (hb1.grown hgrow (by simp; omega) (fun j e => (hown1.lt j e).1))
end
theorem row_owns {w : World} {base n : Nat} {v : Value} {l : List Nat} (h : w.ownsRow base 108 1 v n (l.map dv)) : Row32 w v l := by
  have hn : n = l.length := by have := h.1; rw [List.length_map] at this; omega
  subst hn
  rcases h.2 with ⟨rfl, h0⟩ | ⟨g, cap, cur, rfl, _, hg, hle, hcap, hsz, htk⟩
  · exact .inl ⟨⟨none, 0, rfl, by omega⟩, List.eq_nil_of_length_eq_zero h0⟩
  · refine .inr ⟨g, 0, cap, rfl, ⟨hle, by unfold maxLen at hcap; exact hcap⟩, lt_of_get hg, fun j hj => ?_⟩
    simp only [World.cell?, hg]
    have h1 : (cur.toList.take (l.length * 1))[j]? = (l.map dv)[j]? := by rw [htk]
    rw [List.getElem?_take_of_lt (by omega), List.getElem?_map, List.getElem?_eq_getElem hj] at h1
    rw [List.getElem?_eq_getElem hj]
    simpa [dv] using h1
set_option maxRecDepth 100000 in
set_option maxHeartbeats 1000000 in
theorem nat_any (x : Nat) (hx : x < 18446744073709551616) (w : World) :
    Calls Tryz.prog 32 #[.int .u64 (x : Int)] w fun e w' => ∃ v, e = .returned v ∧ NatIs w' v x ∧ Below w.heap.size w w' := by
  go_enter Tryz.func32, Tryz.ntmps32
  go_wp2
  go_loopw [0, 3] (fun v0 out wr => ∃ (y : Nat) (done : List Nat), v0 = .int .u64 (y : Int) ∧ y < 18446744073709551616 ∧ wr.ownsRow w.heap.size 108 1 out done.length (done.map dv) ∧ (∀ d ∈ done, d < 65536) ∧ val done + 65536 ^ done.length * y = x ∧ (y = 0 → Ok done) ∧ Below w.heap.size w wr) (fun v0 _ _ => (RowKit.intOf v0).toNat)
  case atStart => exact ⟨x, [], rfl, hx, World.ownsRow_nil _ _ _ _, by simp, by simp [val], fun _ => ⟨by simp, by simp⟩, Below.refl _ _⟩
  case round =>
    obtain ⟨y, done, rfl, hy, hown, hlt, hval, hok, hbw⟩ := hrel
    have HV : Hid (val done + 65536 ^ done.length * y = x) := hval
    have HO : Hid (y = 0 → Ok done) := hok
    have HL : Hid (∀ d ∈ done, d < 65536) := hlt
    clear hval hok hlt
    rcases Nat.eq_zero_or_pos y with h0 | h0
    · have HO' := HO.out h0
      subst h0
      go_wp2
      go_ret
      refine ⟨_, rfl, ⟨done, row_owns hown, HO', ?_⟩, hbw⟩
      have := HV.out
      omega
    · have hlen : done.length < 4 := by
        rcases Nat.lt_or_ge done.length 4 with h | h
        · exact h
        · exfalso
          have h1 : 65536 ^ 4 ≤ 65536 ^ done.length := Nat.pow_le_pow_right (by omega) h
          have h2 : 65536 ^ done.length * 1 ≤ 65536 ^ done.length * y := Nat.mul_le_mul_left _ h0
          have := HV.out
          omega
      obtain ⟨d, hd⟩ : ∃ d, d = y % 65536 := ⟨_, rfl⟩
      obtain ⟨q, hq⟩ : ∃ q, q = y / 65536 := ⟨_, rfl⟩
      have hb0 : w.heap.size ≤ w.heap.size := Nat.le_refl _
      have e1 : (y : Int) % 65536 = (d : Int) := by omega
      have e2 : (y : Int) / 65536 = (q : Int) := by omega
      have e3 : IntKind.u32.wrap (d : Int) = (d : Int) := by rw [IntKind.wrap_u32]; omega
      have hd2 : d < 65536 := by omega
      have HD : Hid (y = d + 65536 * q) := (by omega : y = d + 65536 * q)
      clear hd hq
      go_wp2_with (first | (at_builtin; refine app32 rfl _ _ rfl w.heap.size _ _ _ w _ _ hown rfl rfl (by omega) hb0 hbw ?_; intro v' w2 hown' hbw'))
      have hq0 : q < y := by have := HD.out; omega
      refine ⟨⟨q, done ++ [d], rfl, by omega, ?_, ?_, ?_, ?_, hbw'⟩, ?_⟩
      · rw [List.length_append, List.map_append]
        exact hown'
      · intro z hz
        rcases List.mem_append.1 hz with h | h
        · exact HL.out z h
        · rw [List.mem_singleton.1 h]
          exact hd2
      · rw [val_append, List.length_append, List.length_singleton, Nat.pow_succ, ← HV.out, HD.out]
        simp only [val]
        grind
      · intro hq
        refine ⟨?_, ?_⟩
        · intro z hz
          rcases List.mem_append.1 hz with h | h
          · exact HL.out z h
          · rw [List.mem_singleton.1 h]
            exact hd2
        · intro _
          rw [List.length_append, List.length_singleton, Nat.add_sub_cancel, List.getElem?_append_right (Nat.le_refl _), Nat.sub_self]
          have := HD.out
          simp
          omega
      · simp [RowKit.intOf]
        exact hq0
end Go.Proofs.YtellndmbllmjgaaGreatDoor
/- Cmp. -/
set_option linter.unusedVariables false
namespace Go.Proofs.YtellndmbllmjgaaGreatDoor
open Go.RowKit Go.Shelf Go.Sort Fs Fl

theorem val_lt : ∀ (l : List Nat), (∀ d ∈ l, d < 65536) → val l < 65536 ^ l.length
  | [], _ => by simp [val]
  | d :: l, h => by
    have h1 := val_lt l (fun x hx => h x (by simp [hx]))
    have h2 : d < 65536 := h d (by simp)
    rw [val, List.length_cons, Nat.pow_succ]
    omega
theorem val_split (l : List Nat) (i : Nat) (h : i < l.length) : val l = val (l.take i) + 65536 ^ i * (l[i]?.getD 0 + 65536 * val (l.drop (i + 1))) := by
  have e : l = l.take i ++ l.drop i := (List.take_append_drop i l).symm
  have h1 := val_append (l.take i) (l.drop i)
  rw [List.take_append_drop, List.length_take, Nat.min_eq_left (Nat.le_of_lt h)] at h1
  have h2 : l.drop i = l[i] :: l.drop (i + 1) := List.drop_eq_getElem_cons h
  rw [h2, val] at h1
  rw [h1, List.getElem?_eq_getElem h]
  rfl
theorem val_ge (l : List Nat) (h : Ok l) (h0 : 0 < l.length) : 65536 ^ (l.length - 1) ≤ val l := by
  rw [val_split l (l.length - 1) (by omega)]
  have h1 := h.2 h0
  have h2 : 65536 ^ (l.length - 1) * 1 ≤ 65536 ^ (l.length - 1) * (l[l.length - 1]?.getD 0 + 65536 * val (l.drop (l.length - 1 + 1))) := Nat.mul_le_mul_left _ (by omega)
  omega
theorem len_lt {l m : List Nat} (hl : Ok l) (hm : Ok m) (h : l.length < m.length) : val l < val m := by
  have h1 := val_lt l hl.1
  have h2 := val_ge m hm (by omega)
  have h3 : 65536 ^ l.length ≤ 65536 ^ (m.length - 1) := Nat.pow_le_pow_right (by omega) (by omega)
  omega
theorem digit_lt {l m : List Nat} (hl : ∀ d ∈ l, d < 65536) (i : Nat) (h1 : i < l.length) (h2 : i < m.length) (hd : l.drop (i + 1) = m.drop (i + 1)) (h : l[i]?.getD 0 < m[i]?.getD 0) : val l < val m := by
  rw [val_split l i h1, val_split m i h2, hd]
  have h3 := val_lt (l.take i) (fun d hd => hl d (List.mem_of_mem_take hd))
  rw [List.length_take, Nat.min_eq_left (Nat.le_of_lt h1)] at h3
  have h4 : 65536 ^ i * (l[i]?.getD 0 + 65536 * val (m.drop (i + 1)) + 1) ≤ 65536 ^ i * (m[i]?.getD 0 + 65536 * val (m.drop (i + 1))) := Nat.mul_le_mul_left _ (by omega)
  rw [Nat.mul_add (65536 ^ i) _ 1] at h4
  omega
/-- A power that is not to be written out. -/
def pw (n : Nat) : Nat := 65536 ^ n
theorem pw_mono {n k : Nat} (h : n ≤ k) : pw n ≤ pw k := Nat.pow_le_pow_right (by omega) h
theorem len_le {l : List Nat} {n : Nat} (hl : Ok l) (h : val l < pw n) : l.length ≤ n := by
  rcases Nat.lt_or_ge n l.length with h1 | h1
  · have h2 := val_ge l hl (by omega)
    have h3 : pw n ≤ pw (l.length - 1) := pw_mono (by omega)
    exact absurd (Nat.lt_of_lt_of_le h (Nat.le_trans h3 h2)) (Nat.lt_irrefl _)
  · exact h1
/-- What Cmp's answer says. -/
def CmpIs (c : Int) (x y : Nat) : Prop := (0 < c ↔ y < x) ∧ (c < 0 ↔ x < y)
theorem cell_of {w : World} {v : Value} {l : List Nat} (h : Row32 w v l) (h0 : 0 < l.length) : ∃ b off cap, v = .slice (some ⟨b, off, none⟩) l.length cap ∧ ∀ j, j < l.length → w.cell? ⟨b, off + j, none⟩ = some (.int .u32 ((l[j]?.getD 0 : Nat) : Int)) := by
  rcases h with ⟨_, e⟩ | ⟨b, off, cap, e, _, _, hc⟩
  · rw [e] at h0; simp at h0
  · exact ⟨b, off, cap, e, hc⟩
set_option maxRecDepth 100000 in
set_option maxHeartbeats 1000000 in
theorem cmp_same (l m : List Nat) (b1 o1 c1 b2 o2 c2 : Nat) (hl : ∀ d ∈ l, d < 65536) (hm : ∀ d ∈ m, d < 65536) (hlen : l.length = m.length) (hmax : l.length ≤ 1000000) (w : World)
    (hc1 : ∀ j, j < l.length → w.cell? ⟨b1, o1 + j, none⟩ = some (.int .u32 ((l[j]?.getD 0 : Nat) : Int))) (hc2 : ∀ j, j < m.length → w.cell? ⟨b2, o2 + j, none⟩ = some (.int .u32 ((m[j]?.getD 0 : Nat) : Int))) :
    Calls Tryz.prog 67 #[.slice (some ⟨b1, o1, none⟩) l.length c1, .slice (some ⟨b2, o2, none⟩) m.length c2] w fun e w' => ∃ c, e = .returned (.int .i64 c) ∧ CmpIs c (val l) (val m) ∧ ∃ n, w' = w.drewN n := by
  have t1 : ((l.length : Int) != (m.length : Int)) = false := by rw [bne_eq_false_iff_eq]; omega
  have HLEN : Hid (l.length = m.length) := hlen
  clear hlen
  go_enter Tryz.func67, Tryz.ntmps67
  go_wp2
  go_loopw [5] (fun v wr => ∃ k n : Nat, k ≤ l.length ∧ l.drop k = m.drop k ∧ v = .int .i64 ((k : Int) - 1) ∧ wr = w.drewN n) (fun v _ => (RowKit.intOf v + 1).toNat)
  case atStart => exact ⟨l.length, 0, Nat.le_refl _, by rw [List.drop_length, HLEN.out, List.drop_length], rfl, rfl⟩
  case round =>
    obtain ⟨k, n, hk, hdr, rfl, rfl⟩ := hrel
    have HDR : Hid (l.drop k = m.drop k) := hdr
    clear hdr
    rcases Nat.eq_zero_or_pos k with h0 | h0
    · subst h0
      go_wp2
      go_ret
      have e : l = m := HDR.out
      refine ⟨0, rfl, ?_, n, rfl⟩
      rw [e]
      exact ⟨by omega, by omega⟩
    · obtain ⟨j, rfl⟩ : ∃ j, k = j + 1 := ⟨k - 1, by omega⟩
      have ej : ((j + 1 : Nat) : Int) - 1 = (j : Int) := by omega
      have hjm : j < m.length := by have := HLEN.out; omega
      have x1 := hc1 j (by omega)
      have x2 := hc2 j hjm
      have k1 : (j : Int) < (l.length : Int) := by omega
      have k2 : (j : Int) < (m.length : Int) := by omega
      have HC1 := (show Hid _ from hc1)
      have HC2 := (show Hid _ from hc2)
      have HX : Hid (j < l.length) := (by omega : j < l.length)
      clear hc1 hc2
      have hd1 : l[j]?.getD 0 < 65536 := by rw [List.getElem?_eq_getElem HX.out]; exact hl _ (List.getElem_mem _)
      have hd2 : m[j]?.getD 0 < 65536 := by rw [List.getElem?_eq_getElem hjm]; exact hm _ (List.getElem_mem _)
      obtain ⟨p, hp⟩ : ∃ p, p = l[j]?.getD 0 := ⟨_, rfl⟩
      obtain ⟨q, hq⟩ : ∃ q, q = m[j]?.getD 0 := ⟨_, rfl⟩
      rw [← hp] at x1 hd1
      rw [← hq] at x2 hd2
      have HP : Hid (p = l[j]?.getD 0) := hp
      have HQ : Hid (q = m[j]?.getD 0) := hq
      clear hp hq
      rw [ej]
      by_cases hpq : p = q
      · have t2 : ((p : Int) != (q : Int)) = false := by rw [bne_eq_false_iff_eq]; omega
        have HE : Hid (l.drop j = m.drop j) := by
          show l.drop j = m.drop j
          have a1 : l.drop j = l[j]'HX.out :: l.drop (j + 1) := List.drop_eq_getElem_cons HX.out
          have a2 : m.drop j = m[j]'hjm :: m.drop (j + 1) := List.drop_eq_getElem_cons hjm
          have a3 : l[j]'HX.out = m[j]'hjm := by
            have h1 := HP.out
            have h2 := HQ.out
            rw [List.getElem?_eq_getElem HX.out] at h1
            rw [List.getElem?_eq_getElem hjm] at h2
            simp only [Option.getD_some] at h1 h2
            omega
          rw [a1, a2, a3, HDR.out]
        clear hpq
        go_wp2
        go_quiet (fail)
        go_wp2
        go_roundw
        case rel => exact ⟨j, n + nq, by omega, HE.out, by go_num, by simp⟩
        case measure => simp [RowKit.intOf]; try omega
      · have t2 : ((p : Int) != (q : Int)) = true := by rw [bne_iff_ne]; omega
        have HPQ : Hid (p ≠ q) := hpq
        clear hpq
        go_wp2
        go_quiet (fail)
        go_wp2
        go_quiet (fail)
        go_wp2
        go_ret
        refine ⟨(p : Int) - (q : Int), rfl, ?_, _, by rw [World.drewN_drewN, World.drewN_drewN]⟩
        have hpq := HPQ.out
        have key : (q < p → val m < val l) ∧ (p < q → val l < val m) := by
          refine ⟨fun h => ?_, fun h => ?_⟩
          · rw [HP.out, HQ.out] at h
            exact digit_lt hm j hjm HX.out HDR.out.symm h
          · rw [HP.out, HQ.out] at h
            exact digit_lt hl j HX.out hjm HDR.out h
        rcases Nat.lt_or_gt_of_ne hpq with h | h
        · have := key.2 h
          exact ⟨by omega, by omega⟩
        · have := key.1 h
          exact ⟨by omega, by omega⟩
theorem cmp_any (u v : Value) (x y : Nat) (w : World) (hx : NatIs w u x) (hy : NatIs w v y) (bx : x < pw 1000) (by' : y < pw 1000) :
    Calls Tryz.prog 67 #[u, v] w fun e w' => ∃ c, e = .returned (.int .i64 c) ∧ CmpIs c x y ∧ ∃ n, w' = w.drewN n := by
  obtain ⟨l, hl1, hl2, rfl⟩ := hx
  obtain ⟨m, hm1, hm2, rfl⟩ := hy
  have l1 := len_le hl2 bx
  have l2 := len_le hm2 by'
  by_cases hlen : l.length = m.length
  · rcases Nat.eq_zero_or_pos l.length with h0 | h0
    · have e1 : l = [] := List.eq_nil_of_length_eq_zero h0
      have e2 : m = [] := List.eq_nil_of_length_eq_zero (by omega)
      subst e1
      subst e2
      obtain ⟨a, c, rfl⟩ := hl1.slice
      obtain ⟨a', c', rfl⟩ := hm1.slice
      go_enter Tryz.func67, Tryz.ntmps67
      go_wp2
      refine wp_loop_once ?_
      go_wp2
      go_ret
      exact ⟨0, rfl, ⟨by omega, by omega⟩, 0, rfl⟩
    · obtain ⟨b1, o1, c1, rfl, hc1⟩ := cell_of hl1 h0
      obtain ⟨b2, o2, c2, rfl, hc2⟩ := cell_of hm1 (by omega)
      exact cmp_same l m b1 o1 c1 b2 o2 c2 hl2.1 hm2.1 hlen (by omega) w hc1 hc2
  · obtain ⟨a, c, rfl⟩ := hl1.slice
    obtain ⟨a', c', rfl⟩ := hm1.slice
    have t1 : ((l.length : Int) != (m.length : Int)) = true := by rw [bne_iff_ne]; omega
    have hA : l.length < m.length → val l < val m := len_lt hl2 hm2
    have hB : m.length < l.length → val m < val l := len_lt hm2 hl2
    have HC : Hid (CmpIs ((l.length : Int) - (m.length : Int)) (val l) (val m)) := by
      rcases Nat.lt_or_gt_of_ne hlen with h | h
      · have := hA h
        exact ⟨by omega, by omega⟩
      · have := hB h
        exact ⟨by omega, by omega⟩
    clear hA hB hl1 hm1 hl2 hm2 bx by' hlen
    go_enter Tryz.func67, Tryz.ntmps67
    go_wp2
    go_ret
    exact ⟨_, rfl, HC.out, 0, rfl⟩
end Go.Proofs.YtellndmbllmjgaaGreatDoor
