/- The document's whole numbers: digits to the base 65536; cut. -/
import Derived.Test.YtellndmbllmjgaaGreatDoorFeA
import Derived.Test.YtellndmbllmjgaaGreatDoorFlA
import Derived.OwnWalk
import Derived.Deep.RegionWith
set_option linter.unusedVariables false
namespace Go.Proofs.YtellndmbllmjgaaGreatDoor
open Go.RowKit Go.Shelf Go.Sort Fs Fl

/-- What a row of digits counts. -/
def val : List Nat → Nat
  | [] => 0
  | d :: l => d + 65536 * val l
theorem val_append : ∀ (a b : List Nat), val (a ++ b) = val a + 65536 ^ a.length * val b
  | [], b => by simp [val]
  | d :: a, b => by
    rw [List.cons_append, val, val, val_append a b, List.length_cons, Nat.pow_succ]
    grind
theorem val_zero : ∀ (l : List Nat), (∀ d ∈ l, d = 0) → val l = 0
  | [], _ => rfl
  | d :: l, h => by
    rw [val, h d (by simp), val_zero l (fun x hx => h x (by simp [hx]))]
/-- Digits that are a slice of the program's. -/
def Row32 (w : World) (v : Value) (l : List Nat) : Prop :=
  ((∃ a c, v = .slice a 0 c ∧ c ≤ 9223372036854775807) ∧ l = []) ∨ ∃ b off cap, v = .slice (some ⟨b, off, none⟩) l.length cap ∧ (l.length ≤ cap ∧ cap ≤ 9223372036854775807) ∧ b < w.heap.size ∧ ∀ j, j < l.length → w.cell? ⟨b, off + j, none⟩ = some (.int .u32 ((l[j]?.getD 0 : Nat) : Int))
theorem Row32.below {A B : World} (h : Below A.heap.size A B) {v : Value} {l : List Nat} : Row32 A v l → Row32 B v l
  | .inl e => .inl e
  | .inr ⟨b, off, cap, e, hc, hb, hcell⟩ => .inr ⟨b, off, cap, e, hc, Nat.lt_of_lt_of_le hb h.size, fun j hj => (h.cell (p := ⟨b, off + j, none⟩) hb).trans (hcell j hj)⟩
theorem Row32.slice {w : World} {v : Value} {l : List Nat} : Row32 w v l → ∃ a c, v = .slice a l.length c
  | .inl ⟨⟨a, c, e, _⟩, hl⟩ => ⟨a, c, by rw [e, hl]; rfl⟩
  | .inr ⟨b, off, cap, e, _⟩ => ⟨_, _, e⟩
theorem Row32.take {w : World} {v : Value} {l : List Nat} {b off cap k : Nat} (hv : v = .slice (some ⟨b, off, none⟩) l.length cap) (hc : l.length ≤ cap ∧ cap ≤ 9223372036854775807) (hb : b < w.heap.size) (hcell : ∀ j, j < l.length → w.cell? ⟨b, off + j, none⟩ = some (.int .u32 ((l[j]?.getD 0 : Nat) : Int))) (hk : k ≤ l.length) :
    Row32 w (.slice (some ⟨b, off, none⟩) k cap) (l.take k) := by
  have hlen : (l.take k).length = k := by rw [List.length_take]; omega
  refine .inr ⟨b, off, cap, by rw [hlen], ⟨by omega, hc.2⟩, hb, fun j hj => ?_⟩
  rw [hlen] at hj
  rw [hcell j (by omega), List.getElem?_take_of_lt hj]
set_option maxRecDepth 100000 in
set_option maxHeartbeats 1000000 in
theorem cut_row (l : List Nat) (b off cap : Nat) (hl : l.length ≤ 1000000) (hcap : l.length ≤ cap) (hcm : cap ≤ 9223372036854775807) (w : World) (hb : b < w.heap.size) (hcell : ∀ j, j < l.length → w.cell? ⟨b, off + j, none⟩ = some (.int .u32 ((l[j]?.getD 0 : Nat) : Int))) :
    Calls Tryz.prog 117 #[.slice (some ⟨b, off, none⟩) l.length cap] w fun e w' => ∃ k, k ≤ l.length ∧ (∀ j, k ≤ j → l[j]?.getD 0 = 0) ∧ (0 < k → l[k - 1]?.getD 0 ≠ 0) ∧ e = .returned (.slice (some ⟨b, off, none⟩) k cap) ∧ w' = w := by
  go_enter Tryz.func117, Tryz.ntmps117
  go_wp2
  go_loopw [3] (fun v wr => ∃ k : Nat, k ≤ l.length ∧ (∀ j, k ≤ j → l[j]?.getD 0 = 0) ∧ v = .int .i64 (k : Int) ∧ wr = w) (fun v _ => (RowKit.intOf v).toNat)
  case atStart => exact ⟨l.length, Nat.le_refl _, fun j hj => by rw [List.getElem?_eq_none hj]; rfl, rfl, rfl⟩
  case round =>
    obtain ⟨k, hk, hz, rfl, rfl⟩ := hrel
    have HZ : Hid (∀ j, k ≤ j → l[j]?.getD 0 = 0) := hz
    clear hz
    rcases Nat.eq_zero_or_pos k with h0 | h0
    · subst h0
      go_wp2
      go_ret
      exact ⟨0, Nat.zero_le _, HZ.out, fun h => absurd h (by omega), rfl, rfl⟩
    · obtain ⟨j, rfl⟩ : ∃ j, k = j + 1 := ⟨k - 1, by omega⟩
      have hc := hcell j (by omega)
      have HC : Hid (∀ j, j < l.length → wr.cell? ⟨b, off + j, none⟩ = some (.int .u32 ((l[j]?.getD 0 : Nat) : Int))) := hcell
      clear hcell
      obtain ⟨g, hg⟩ : ∃ g, g = l[j]?.getD 0 := ⟨_, rfl⟩
      rw [← hg] at hc
      have HG : Hid (g = l[j]?.getD 0) := hg
      clear hg
      by_cases hg0 : g = 0
      · have HG0 : Hid (l[j]?.getD 0 = 0) := by rw [← HG.out]; exact hg0
        subst hg0
        go_wp2
        go_roundw
        case rel => exact ⟨j, by omega, fun i hi => by rcases Nat.eq_or_lt_of_le hi with e | e; (· rw [← e]; exact HG0.out); (· exact HZ.out i e), by go_num, trivial⟩
        case measure => simp [RowKit.intOf]
      · have t1 : ((g : Int) == 0) = false := by rw [beq_eq_false_iff_ne]; omega
        go_wp2
        go_ret
        exact ⟨j + 1, hk, HZ.out, fun _ => by rw [Nat.add_sub_cancel, ← HG.out]; exact hg0, rfl, rfl⟩
/-- Digits without noughts at the end. -/
def Ok (l : List Nat) : Prop := (∀ d ∈ l, d < 65536) ∧ (0 < l.length → l[l.length - 1]?.getD 0 ≠ 0)
/-- A whole number of the program's. -/
def NatIs (w : World) (v : Value) (x : Nat) : Prop := ∃ l, Row32 w v l ∧ Ok l ∧ val l = x
theorem NatIs.below {A B : World} (h : Below A.heap.size A B) {v : Value} {x : Nat} : NatIs A v x → NatIs B v x
  | ⟨l, h1, h2, h3⟩ => ⟨l, h1.below h, h2, h3⟩
theorem take_zero (l : List Nat) (k : Nat) (h : ∀ j, k ≤ j → l[j]?.getD 0 = 0) : val (l.take k) = val l := by
  have e : l = l.take k ++ l.drop k := (List.take_append_drop k l).symm
  have h0 : val (l.drop k) = 0 := val_zero _ (fun d hd => by
    obtain ⟨j, hj, rfl⟩ := List.mem_iff_getElem.1 hd
    have := h (k + j) (by omega)
    rw [List.getElem_drop]
    rw [List.length_drop] at hj
    rw [List.getElem?_eq_getElem (by omega)] at this
    exact this)
  have := val_append (l.take k) (l.drop k)
  rw [List.take_append_drop, h0, Nat.mul_zero, Nat.add_zero] at this
  exact this.symm
/-- **cut.** -/
theorem cut_any (l : List Nat) (v : Value) (hl : l.length ≤ 1000000) (hd : ∀ d ∈ l, d < 65536) (w : World) (hv : Row32 w v l) :
    Calls Tryz.prog 117 #[v] w fun e w' => ∃ v', e = .returned v' ∧ NatIs w v' (val l) ∧ w' = w := by
  rcases hv with ⟨⟨a, c, rfl, hcc⟩, rfl⟩ | ⟨b, off, cap, rfl, hc, hb, hcell⟩
  · go_enter Tryz.func117, Tryz.ntmps117
    go_wp2
    refine wp_loop_once ?_
    go_wp2
    go_ret
    exact ⟨_, rfl, ⟨[], .inl ⟨⟨a, c, rfl, hcc⟩, rfl⟩, ⟨by simp, by simp⟩, rfl⟩, rfl⟩
  · refine (cut_row l b off cap hl hc.1 hc.2 w hb hcell).mono ?_
    rintro e w' ⟨k, hk, hz, hlast, rfl, rfl⟩
    refine ⟨_, rfl, ⟨l.take k, Row32.take rfl hc hb hcell hk, ⟨fun d h => hd d (List.mem_of_mem_take h), ?_⟩, take_zero l k hz⟩, rfl⟩
    have hlen : (l.take k).length = k := by rw [List.length_take]; omega
    rw [hlen]
    intro h0
    rw [List.getElem?_take_of_lt (by omega)]
    exact hlast h0
end Go.Proofs.YtellndmbllmjgaaGreatDoor
/- Digits go in behind; Nat. -/
set_option linter.unusedVariables false
namespace Go.Proofs.YtellndmbllmjgaaGreatDoor
open Go.RowKit Go.Shelf Go.Sort Fs Fl

theorem info108 : (Tryz.prog.info? 108).map (fun i => (i.zero, i.size, i.bytes)) = some (some (.int .u32 0), 1, 4) := by kernel_rfl
def dv (d : Nat) : Value := .int .u32 (d : Int)
section
variable {ops : Array Oper} {rest : List Oper} {o : Oper} {a : Act} {Q : Exit → Act → World → Prop}
theorem app32 (hgd : o.guard = none) (s x : Operand) (ho : o.op = .call { callee := .builtin .append, args := #[s, x], argTypes := #[53, 53] })
    (base n : Nat) (v : Value) (xs : List Value) (w0 w : World) (z : Int) (hown : w.ownsRow base 108 1 v n xs) (hs : a.eval s = v) (hx : a.eval x = .slice (some ⟨w.heap.size, 0, none⟩) 1 1)
    (hn : n + 1 ≤ 1000000) (hb : base ≤ w0.heap.size) (hbw : Below base w0 w)
    (h : ∀ v' w', w'.ownsRow base 108 1 v' (n + 1) (xs ++ [.int .u32 z]) → Below base w0 w' → wpList Tryz.prog ops Q rest (a.put o.dst v') w') :
    wpList Tryz.prog ops Q (o :: rest) a (w.alloc (.cells #[.int .u32 z] 108)) := by
  obtain ⟨i0, hi, hz0, hz1, hz2⟩ := info_parts info108
  have hsz := hbw.size
  have hb1 := hbw.alloc (Nat.le_trans hb hbw.size) (Obj.cells #[.int .u32 z] 108)
  have hown1 := hown.alloc (Obj.cells #[.int .u32 z] 108)
  refine wpList_append_own _ hgd s x 53 ho base 108 i0 (.int .u32 0) 1 4 Tryz.underlying53 hi hz0 hz1 hz2 rfl (by decide) v n xs hs hown1 ⟨w.heap.size, 0, none⟩ 1 1 [.int .u32 z] hx rfl (cells_new w [.int .u32 z] 108) (one_ints .u32 [z]) (max_small hn) (by omega) (by simp; omega) ?_
  intro v' w' hown' hgrow _
  exact h v' w' hown' (hb1.grown hgrow (by simp; omega) (fun j e => (hown1.lt j e).1))
end
theorem row_owns {w : World} {base n : Nat} {v : Value} {l : List Nat} (h : w.ownsRow base 108 1 v n (l.map dv)) : Row32 w v l := by
  have hn : n = l.length := by have := h.1; rw [List.length_map] at this; omega
  subst hn
  rcases h.2 with ⟨rfl, h0⟩ | ⟨g, cap, cur, rfl, _, hg, hle, hcap, hsz, htk⟩
  · exact .inl ⟨⟨none, 0, rfl, by omega⟩, List.eq_nil_of_length_eq_zero h0⟩
  · refine .inr ⟨g, 0, cap, rfl, ⟨hle, by unfold maxLen at hcap; exact hcap⟩, lt_of_get hg, fun j hj => ?_⟩
    simp only [World.cell?, hg]
    have h1 : (cur.toList.take (l.length * 1))[j]? = (l.map dv)[j]? := by rw [htk]
    rw [List.getElem?_take_of_lt (by omega), List.getElem?_map, List.getElem?_eq_getElem hj] at h1
    rw [List.getElem?_eq_getElem hj]
    simpa [dv] using h1
set_option maxRecDepth 100000 in
set_option maxHeartbeats 1000000 in
theorem nat_any (x : Nat) (hx : x < 18446744073709551616) (w : World) :
    Calls Tryz.prog 32 #[.int .u64 (x : Int)] w fun e w' => ∃ v, e = .returned v ∧ NatIs w' v x ∧ Below w.heap.size w w' := by
  go_enter Tryz.func32, Tryz.ntmps32
  go_wp2
  go_loopw [0, 3] (fun v0 out wr => ∃ (y : Nat) (done : List Nat), v0 = .int .u64 (y : Int) ∧ y < 18446744073709551616 ∧ wr.ownsRow w.heap.size 108 1 out done.length (done.map dv) ∧ (∀ d ∈ done, d < 65536) ∧ val done + 65536 ^ done.length * y = x ∧ (y = 0 → Ok done) ∧ Below w.heap.size w wr) (fun v0 _ _ => (RowKit.intOf v0).toNat)
  case atStart => exact ⟨x, [], rfl, hx, World.ownsRow_nil _ _ _ _, by simp, by simp [val], fun _ => ⟨by simp, by simp⟩, Below.refl _ _⟩
  case round =>
    obtain ⟨y, done, rfl, hy, hown, hlt, hval, hok, hbw⟩ := hrel
    have HV : Hid (val done + 65536 ^ done.length * y = x) := hval
    have HO : Hid (y = 0 → Ok done) := hok
    have HL : Hid (∀ d ∈ done, d < 65536) := hlt
    clear hval hok hlt
    rcases Nat.eq_zero_or_pos y with h0 | h0
    · have HO' := HO.out h0
      subst h0
      go_wp2
      go_ret
      refine ⟨_, rfl, ⟨done, row_owns hown, HO', ?_⟩, hbw⟩
      have := HV.out
      omega
    · have hlen : done.length < 4 := by
        rcases Nat.lt_or_ge done.length 4 with h | h
        · exact h
        · exfalso
          have h1 : 65536 ^ 4 ≤ 65536 ^ done.length := Nat.pow_le_pow_right (by omega) h
          have h2 : 65536 ^ done.length * 1 ≤ 65536 ^ done.length * y := Nat.mul_le_mul_left _ h0
          have := HV.out
          omega
      obtain ⟨d, hd⟩ : ∃ d, d = y % 65536 := ⟨_, rfl⟩
      obtain ⟨q, hq⟩ : ∃ q, q = y / 65536 := ⟨_, rfl⟩
      have hb0 : w.heap.size ≤ w.heap.size := Nat.le_refl _
      have e1 : (y : Int) % 65536 = (d : Int) := by omega
      have e2 : (y : Int) / 65536 = (q : Int) := by omega
      have e3 : IntKind.u32.wrap (d : Int) = (d : Int) := by rw [IntKind.wrap_u32]; omega
      have hd2 : d < 65536 := by omega
      have HD : Hid (y = d + 65536 * q) := (by omega : y = d + 65536 * q)
      clear hd hq
      go_wp2_with (first | (at_builtin; refine app32 rfl _ _ rfl w.heap.size _ _ _ w _ _ hown rfl rfl (by omega) hb0 hbw ?_; intro v' w2 hown' hbw'))
      have hq0 : q < y := by have := HD.out; omega
      refine ⟨⟨q, done ++ [d], rfl, by omega, ?_, ?_, ?_, ?_, hbw'⟩, ?_⟩
      · rw [List.length_append, List.map_append]
        exact hown'
      · intro z hz
        rcases List.mem_append.1 hz with h | h
        · exact HL.out z h
        · rw [List.mem_singleton.1 h]
          exact hd2
      · rw [val_append, List.length_append, List.length_singleton, Nat.pow_succ, ← HV.out, HD.out]
        simp only [val]
        grind
      · intro hq
        refine ⟨?_, ?_⟩
        · intro z hz
          rcases List.mem_append.1 hz with h | h
          · exact HL.out z h
          · rw [List.mem_singleton.1 h]
            exact hd2
        · intro _
          rw [List.length_append, List.length_singleton, Nat.add_sub_cancel, List.getElem?_append_right (Nat.le_refl _), Nat.sub_self]
          have := HD.out
          simp
          omega
      · simp [RowKit.intOf]
        exact hq0
end Go.Proofs.YtellndmbllmjgaaGreatDoor
/- Cmp. -/
set_option linter.unusedVariables false
namespace Go.Proofs.YtellndmbllmjgaaGreatDoor
open Go.RowKit Go.Shelf Go.Sort Fs Fl

theorem val_lt : ∀ (l : List Nat), (∀ d ∈ l, d < 65536) → val l < 65536 ^ l.length
  | [], _ => by simp [val]
  | d :: l, h => by
    have h1 := val_lt l (fun x hx => h x (by simp [hx]))
    have h2 : d < 65536 := h d (by simp)
    rw [val, List.length_cons, Nat.pow_succ]
    omega
theorem val_split (l : List Nat) (i : Nat) (h : i < l.length) : val l = val (l.take i) + 65536 ^ i * (l[i]?.getD 0 + 65536 * val (l.drop (i + 1))) := by
  have e : l = l.take i ++ l.drop i := (List.take_append_drop i l).symm
  have h1 := val_append (l.take i) (l.drop i)
  rw [List.take_append_drop, List.length_take, Nat.min_eq_left (Nat.le_of_lt h)] at h1
  have h2 : l.drop i = l[i] :: l.drop (i + 1) := List.drop_eq_getElem_cons h
  rw [h2, val] at h1
  rw [h1, List.getElem?_eq_getElem h]
  rfl
theorem val_ge (l : List Nat) (h : Ok l) (h0 : 0 < l.length) : 65536 ^ (l.length - 1) ≤ val l := by
  rw [val_split l (l.length - 1) (by omega)]
  have h1 := h.2 h0
  have h2 : 65536 ^ (l.length - 1) * 1 ≤ 65536 ^ (l.length - 1) * (l[l.length - 1]?.getD 0 + 65536 * val (l.drop (l.length - 1 + 1))) := Nat.mul_le_mul_left _ (by omega)
  omega
theorem len_lt {l m : List Nat} (hl : Ok l) (hm : Ok m) (h : l.length < m.length) : val l < val m := by
  have h1 := val_lt l hl.1
  have h2 := val_ge m hm (by omega)
  have h3 : 65536 ^ l.length ≤ 65536 ^ (m.length - 1) := Nat.pow_le_pow_right (by omega) (by omega)
  omega
theorem digit_lt {l m : List Nat} (hl : ∀ d ∈ l, d < 65536) (i : Nat) (h1 : i < l.length) (h2 : i < m.length) (hd : l.drop (i + 1) = m.drop (i + 1)) (h : l[i]?.getD 0 < m[i]?.getD 0) : val l < val m := by
  rw [val_split l i h1, val_split m i h2, hd]
  have h3 := val_lt (l.take i) (fun d hd => hl d (List.mem_of_mem_take hd))
  rw [List.length_take, Nat.min_eq_left (Nat.le_of_lt h1)] at h3
  have h4 : 65536 ^ i * (l[i]?.getD 0 + 65536 * val (m.drop (i + 1)) + 1) ≤ 65536 ^ i * (m[i]?.getD 0 + 65536 * val (m.drop (i + 1))) := Nat.mul_le_mul_left _ (by omega)
  rw [Nat.mul_add (65536 ^ i) _ 1] at h4
  omega
/-- A power that is not to be written out. -/
def pw (n : Nat) : Nat := 65536 ^ n
theorem pw_mono {n k : Nat} (h : n ≤ k) : pw n ≤ pw k := Nat.pow_le_pow_right (by omega) h
theorem len_le {l : List Nat} {n : Nat} (hl : Ok l) (h : val l < pw n) : l.length ≤ n := by
  rcases Nat.lt_or_ge n l.length with h1 | h1
  · have h2 := val_ge l hl (by omega)
    have h3 : pw n ≤ pw (l.length - 1) := pw_mono (by omega)
    exact absurd (Nat.lt_of_lt_of_le h (Nat.le_trans h3 h2)) (Nat.lt_irrefl _)
  · exact h1
/-- What Cmp's answer says. -/
def CmpIs (c : Int) (x y : Nat) : Prop := (0 < c ↔ y < x) ∧ (c < 0 ↔ x < y)
theorem cell_of {w : World} {v : Value} {l : List Nat} (h : Row32 w v l) (h0 : 0 < l.length) : ∃ b off cap, v = .slice (some ⟨b, off, none⟩) l.length cap ∧ ∀ j, j < l.length → w.cell? ⟨b, off + j, none⟩ = some (.int .u32 ((l[j]?.getD 0 : Nat) : Int)) := by
  rcases h with ⟨_, e⟩ | ⟨b, off, cap, e, _, _, hc⟩
  · rw [e] at h0; simp at h0
  · exact ⟨b, off, cap, e, hc⟩
set_option maxRecDepth 100000 in
set_option maxHeartbeats 1000000 in
theorem cmp_same (l m : List Nat) (b1 o1 c1 b2 o2 c2 : Nat) (hl : ∀ d ∈ l, d < 65536) (hm : ∀ d ∈ m, d < 65536) (hlen : l.length = m.length) (hmax : l.length ≤ 1000000) (w : World)
    (hc1 : ∀ j, j < l.length → w.cell? ⟨b1, o1 + j, none⟩ = some (.int .u32 ((l[j]?.getD 0 : Nat) : Int))) (hc2 : ∀ j, j < m.length → w.cell? ⟨b2, o2 + j, none⟩ = some (.int .u32 ((m[j]?.getD 0 : Nat) : Int))) :
    Calls Tryz.prog 67 #[.slice (some ⟨b1, o1, none⟩) l.length c1, .slice (some ⟨b2, o2, none⟩) m.length c2] w fun e w' => ∃ c, e = .returned (.int .i64 c) ∧ CmpIs c (val l) (val m) ∧ ∃ n, w' = w.drewN n := by
  have t1 : ((l.length : Int) != (m.length : Int)) = false := by rw [bne_eq_false_iff_eq]; omega
  have HLEN : Hid (l.length = m.length) := hlen
  clear hlen
  go_enter Tryz.func67, Tryz.ntmps67
  go_wp2
  go_loopw [5] (fun v wr => ∃ k n : Nat, k ≤ l.length ∧ l.drop k = m.drop k ∧ v = .int .i64 ((k : Int) - 1) ∧ wr = w.drewN n) (fun v _ => (RowKit.intOf v + 1).toNat)
  case atStart => exact ⟨l.length, 0, Nat.le_refl _, by rw [List.drop_length, HLEN.out, List.drop_length], rfl, rfl⟩
  case round =>
    obtain ⟨k, n, hk, hdr, rfl, rfl⟩ := hrel
    have HDR : Hid (l.drop k = m.drop k) := hdr
    clear hdr
    rcases Nat.eq_zero_or_pos k with h0 | h0
    · subst h0
      go_wp2
      go_ret
      have e : l = m := HDR.out
      refine ⟨0, rfl, ?_, n, rfl⟩
      rw [e]
      exact ⟨by omega, by omega⟩
    · obtain ⟨j, rfl⟩ : ∃ j, k = j + 1 := ⟨k - 1, by omega⟩
      have ej : ((j + 1 : Nat) : Int) - 1 = (j : Int) := by omega
      have hjm : j < m.length := by have := HLEN.out; omega
      have x1 := hc1 j (by omega)
      have x2 := hc2 j hjm
      have k1 : (j : Int) < (l.length : Int) := by omega
      have k2 : (j : Int) < (m.length : Int) := by omega
      have HC1 := (show Hid _ from hc1)
      have HC2 := (show Hid _ from hc2)
      have HX : Hid (j < l.length) := (by omega : j < l.length)
      clear hc1 hc2
      have hd1 : l[j]?.getD 0 < 65536 := by rw [List.getElem?_eq_getElem HX.out]; exact hl _ (List.getElem_mem _)
      have hd2 : m[j]?.getD 0 < 65536 := by rw [List.getElem?_eq_getElem hjm]; exact hm _ (List.getElem_mem _)
      obtain ⟨p, hp⟩ : ∃ p, p = l[j]?.getD 0 := ⟨_, rfl⟩
      obtain ⟨q, hq⟩ : ∃ q, q = m[j]?.getD 0 := ⟨_, rfl⟩
      rw [← hp] at x1 hd1
      rw [← hq] at x2 hd2
      have HP : Hid (p = l[j]?.getD 0) := hp
      have HQ : Hid (q = m[j]?.getD 0) := hq
      clear hp hq
      rw [ej]
      by_cases hpq : p = q
      · have t2 : ((p : Int) != (q : Int)) = false := by rw [bne_eq_false_iff_eq]; omega
        have HE : Hid (l.drop j = m.drop j) := by
          show l.drop j = m.drop j
          have a1 : l.drop j = l[j]'HX.out :: l.drop (j + 1) := List.drop_eq_getElem_cons HX.out
          have a2 : m.drop j = m[j]'hjm :: m.drop (j + 1) := List.drop_eq_getElem_cons hjm
          have a3 : l[j]'HX.out = m[j]'hjm := by
            have h1 := HP.out
            have h2 := HQ.out
            rw [List.getElem?_eq_getElem HX.out] at h1
            rw [List.getElem?_eq_getElem hjm] at h2
            simp only [Option.getD_some] at h1 h2
            omega
          rw [a1, a2, a3, HDR.out]
        clear hpq
        go_wp2
        go_quiet (fail)
        go_wp2
        go_roundw
        case rel => exact ⟨j, n + nq, by omega, HE.out, by go_num, by simp⟩
        case measure => simp [RowKit.intOf]; try omega
      · have t2 : ((p : Int) != (q : Int)) = true := by rw [bne_iff_ne]; omega
        have HPQ : Hid (p ≠ q) := hpq
        clear hpq
        go_wp2
        go_quiet (fail)
        go_wp2
        go_quiet (fail)
        go_wp2
        go_ret
        refine ⟨(p : Int) - (q : Int), rfl, ?_, _, by rw [World.drewN_drewN, World.drewN_drewN]⟩
        have hpq := HPQ.out
        have key : (q < p → val m < val l) ∧ (p < q → val l < val m) := by
          refine ⟨fun h => ?_, fun h => ?_⟩
          · rw [HP.out, HQ.out] at h
            exact digit_lt hm j hjm HX.out HDR.out.symm h
          · rw [HP.out, HQ.out] at h
            exact digit_lt hl j HX.out hjm HDR.out h
        rcases Nat.lt_or_gt_of_ne hpq with h | h
        · have := key.2 h
          exact ⟨by omega, by omega⟩
        · have := key.1 h
          exact ⟨by omega, by omega⟩
theorem cmp_any (u v : Value) (x y : Nat) (w : World) (hx : NatIs w u x) (hy : NatIs w v y) (bx : x < pw 1000) (by' : y < pw 1000) :
    Calls Tryz.prog 67 #[u, v] w fun e w' => ∃ c, e = .returned (.int .i64 c) ∧ CmpIs c x y ∧ ∃ n, w' = w.drewN n := by
  obtain ⟨l, hl1, hl2, rfl⟩ := hx
  obtain ⟨m, hm1, hm2, rfl⟩ := hy
  have l1 := len_le hl2 bx
  have l2 := len_le hm2 by'
  by_cases hlen : l.length = m.length
  · rcases Nat.eq_zero_or_pos l.length with h0 | h0
    · have e1 : l = [] := List.eq_nil_of_length_eq_zero h0
      have e2 : m = [] := List.eq_nil_of_length_eq_zero (by omega)
      subst e1
      subst e2
      obtain ⟨a, c, rfl⟩ := hl1.slice
      obtain ⟨a', c', rfl⟩ := hm1.slice
      go_enter Tryz.func67, Tryz.ntmps67
      go_wp2
      refine wp_loop_once ?_
      go_wp2
      go_ret
      exact ⟨0, rfl, ⟨by omega, by omega⟩, 0, rfl⟩
    · obtain ⟨b1, o1, c1, rfl, hc1⟩ := cell_of hl1 h0
      obtain ⟨b2, o2, c2, rfl, hc2⟩ := cell_of hm1 (by omega)
      exact cmp_same l m b1 o1 c1 b2 o2 c2 hl2.1 hm2.1 hlen (by omega) w hc1 hc2
  · obtain ⟨a, c, rfl⟩ := hl1.slice
    obtain ⟨a', c', rfl⟩ := hm1.slice
    have t1 : ((l.length : Int) != (m.length : Int)) = true := by rw [bne_iff_ne]; omega
    have hA : l.length < m.length → val l < val m := len_lt hl2 hm2
    have hB : m.length < l.length → val m < val l := len_lt hm2 hl2
    have HC : Hid (CmpIs ((l.length : Int) - (m.length : Int)) (val l) (val m)) := by
      rcases Nat.lt_or_gt_of_ne hlen with h | h
      · have := hA h
        exact ⟨by omega, by omega⟩
      · have := hB h
        exact ⟨by omega, by omega⟩
    clear hA hB hl1 hm1 hl2 hm2 bx by' hlen
    go_enter Tryz.func67, Tryz.ntmps67
    go_wp2
    go_ret
    exact ⟨_, rfl, HC.out, 0, rfl⟩
end Go.Proofs.YtellndmbllmjgaaGreatDoor
/- Add. -/
set_option linter.unusedVariables false
namespace Go.Proofs.YtellndmbllmjgaaGreatDoor
open Go.RowKit Go.Shelf Go.Sort Fs Fl

theorem drop_val (l : List Nat) (i : Nat) : val (l.drop i) = l[i]?.getD 0 + 65536 * val (l.drop (i + 1)) := by
  rcases Nat.lt_or_ge i l.length with h | h
  · rw [List.drop_eq_getElem_cons h, val, List.getElem?_eq_getElem h]
    rfl
  · rw [List.drop_of_length_le h, List.drop_of_length_le (by omega), List.getElem?_eq_none h]
    rfl
theorem getD_lt {l : List Nat} (h : ∀ d ∈ l, d < 65536) (i : Nat) : l[i]?.getD 0 < 65536 := by
  rcases Nat.lt_or_ge i l.length with h1 | h1
  · rw [List.getElem?_eq_getElem h1]
    exact h _ (List.getElem_mem _)
  · rw [List.getElem?_eq_none h1]
    simp
theorem getD_none (l : List Nat) (i : Nat) (h : l.length ≤ i) : l[i]?.getD 0 = 0 := by
  rw [List.getElem?_eq_none h]
  rfl
/-- What holds ahead of each round of Add. -/
def AddR (w : World) (l m : List Nat) (out carry vi : Value) (wr : World) : Prop :=
  ∃ (i c : Nat) (done : List Nat), wr.ownsRow w.heap.size 108 1 out done.length (done.map dv) ∧ carry = .int .u32 (c : Int) ∧ vi = .int .i64 (i : Int) ∧ done.length = i ∧ c ≤ 1 ∧ i ≤ l.length + m.length + 1 ∧ (∀ d ∈ done, d < 65536) ∧ val done + 65536 ^ i * (c + val (l.drop i) + val (m.drop i)) = val l + val m ∧ (i = l.length + m.length + 1 → c = 0) ∧ Below w.heap.size w wr
theorem add_step {w : World} {l m : List Nat} {done : List Nat} {i c d c2 : Nat} {out : Value} {wr : World} (hl : ∀ d ∈ l, d < 65536) (hm : ∀ d ∈ m, d < 65536) (hi : done.length = i) (hlt : ∀ d ∈ done, d < 65536)
    (hv : val done + 65536 ^ i * (c + val (l.drop i) + val (m.drop i)) = val l + val m) (hx : d + 65536 * c2 = c + l[i]?.getD 0 + m[i]?.getD 0) (hd : d < 65536) (hcc : c ≤ 1) (hc2 : c2 ≤ 1) (hgo : i < l.length ∨ i < m.length ∨ 0 < c) (hil : i ≤ l.length + m.length + 1) (hlast : i = l.length + m.length + 1 → c = 0)
    (hown : wr.ownsRow w.heap.size 108 1 out (done.length + 1) (done.map dv ++ [.int .u32 (d : Int)])) (hb : Below w.heap.size w wr) :
    AddR w l m out (.int .u32 (c2 : Int)) (.int .i64 ((i : Int) + 1)) wr := by
  refine ⟨i + 1, c2, done ++ [d], ?_, rfl, by simp, by simp [hi], hc2, by omega, ?_, ?_, ?_, hb⟩
  · rw [List.length_append, List.map_append]
    exact hown
  · intro z hz
    rcases List.mem_append.1 hz with h | h
    · exact hlt z h
    · rw [List.mem_singleton.1 h]
      exact hd
  · rw [drop_val l i, drop_val m i] at hv
    rw [val_append, hi, ← hv, Nat.pow_succ]
    simp only [val]
    have : c = d + 65536 * c2 - l[i]?.getD 0 - m[i]?.getD 0 := by omega
    generalize val (l.drop (i + 1)) = L at *
    generalize val (m.drop (i + 1)) = M at *
    generalize val done = D at *
    generalize 65536 ^ i = P at *
    generalize l[i]?.getD 0 = a at *
    generalize m[i]?.getD 0 = b at *
    have e : c + (a + 65536 * L) + (b + 65536 * M) = d + 65536 * c2 + 65536 * L + 65536 * M := by omega
    rw [e]
    grind
  · intro h
    have h1 : i = l.length + m.length := by omega
    have a0 := getD_none l i (by omega)
    have b0 := getD_none m i (by omega)
    omega
set_option maxRecDepth 100000 in
set_option maxHeartbeats 4000000 in
theorem add_11 (l m : List Nat) (b1 o1 c1 b2 o2 c2 : Nat) (oa ob : Option Addr) (hl : ∀ d ∈ l, d < 65536) (hm : ∀ d ∈ m, d < 65536) (hll : l.length ≤ 1000) (hml : m.length ≤ 1000) (w : World)
    (hb1 : b1 < w.heap.size) (hc1 : ∀ j, j < l.length → w.cell? ⟨b1, o1 + j, none⟩ = some (.int .u32 ((l[j]?.getD 0 : Nat) : Int)))
    (hb2 : b2 < w.heap.size) (hc2 : ∀ j, j < m.length → w.cell? ⟨b2, o2 + j, none⟩ = some (.int .u32 ((m[j]?.getD 0 : Nat) : Int)))
    : Calls Tryz.prog 69 #[.slice (some ⟨b1, o1, none⟩) l.length c1, .slice (some ⟨b2, o2, none⟩) m.length c2] w fun e w' => ∃ v, e = .returned v ∧ NatIs w' v (val l + val m) ∧ Below w.heap.size w w' := by
  go_enter Tryz.func69, Tryz.ntmps69
  go_wp2
  go_loopw [5, 6, 7] (fun out carry vi wr => AddR w l m out carry vi wr) (fun _ carry vi _ => 2 * (l.length + m.length - (RowKit.intOf vi).toNat) + (RowKit.intOf carry).toNat)
  case atStart => exact ⟨0, 0, [], World.ownsRow_nil _ _ _ _, rfl, rfl, rfl, by omega, by omega, by simp, by simp [val], by omega, Below.refl _ _⟩
  case round =>
    obtain ⟨i, c, done, hown, rfl, rfl, hi, hc, hil, hlt, hval, hlast, hbw⟩ := hrel
    have HV : Hid (val done + 65536 ^ i * (c + val (l.drop i) + val (m.drop i)) = val l + val m) := hval
    have HLT : Hid (∀ d ∈ done, d < 65536) := hlt
    have HI : Hid (done.length = i) := hi
    have HLA : Hid (i = l.length + m.length + 1 → c = 0) := hlast
    have hdl : done.length ≤ 3000 := by omega
    clear hval hlt hi hlast
    by_cases g1 : i < l.length
    · have k1 : (i : Int) < (l.length : Int) := by omega
      by_cases g2 : i < m.length
      · have k2 : (i : Int) < (m.length : Int) := by omega
        obtain ⟨x, hxx⟩ : ∃ x, x = c + l[i]?.getD 0 + m[i]?.getD 0 := ⟨_, rfl⟩
        have la := getD_lt hl i
        have lb := getD_lt hm i
        have x1 : wr.cell? ⟨b1, o1 + i, none⟩ = some (.int .u32 ((l[i]?.getD 0 : Nat) : Int)) := (hbw.cell (p := ⟨b1, o1 + i, none⟩) hb1).trans (hc1 i (by omega))
        have x2 : wr.cell? ⟨b2, o2 + i, none⟩ = some (.int .u32 ((m[i]?.getD 0 : Nat) : Int)) := (hbw.cell (p := ⟨b2, o2 + i, none⟩) hb2).trans (hc2 i (by omega))
        have STEP := fun (d c2 : Nat) (out : Value) (w2 : World) (h1 : d + 65536 * c2 = c + l[i]?.getD 0 + m[i]?.getD 0) (h2 : d < 65536) (h3 : c2 ≤ 1) => add_step (w := w) (d := d) (c2 := c2) (out := out) (wr := w2) hl hm HI.out HLT.out HV.out h1 h2 hc h3 (by omega) hil HLA.out
        have HS := (show Hid _ from STEP)
        clear STEP
        generalize l[i]?.getD 0 = a at *
        generalize m[i]?.getD 0 = b at *
        have e1 : IntKind.u32.wrap ((c : Int) + (a : Int)) = ((c + a : Nat) : Int) := by rw [IntKind.wrap_u32]; omega
        have e2 : IntKind.u32.wrap (((c + a : Nat) : Int) + (b : Int)) = (x : Int) := by rw [IntKind.wrap_u32]; omega
        obtain ⟨d, hd⟩ : ∃ d, d = x % 65536 := ⟨_, rfl⟩
        obtain ⟨q, hq⟩ : ∃ q, q = x / 65536 := ⟨_, rfl⟩
        have e3 : (x : Int) % 65536 = (d : Int) := by omega
        have e4 : (x : Int) / 65536 = (q : Int) := by omega
        have HDQ : Hid (d + 65536 * q = x ∧ d < 65536 ∧ q ≤ 1) := (by omega : d + 65536 * q = x ∧ d < 65536 ∧ q ≤ 1)
        have HXX := (show Hid _ from hxx)
        clear hxx hd hq hc1 hc2
        go_wp2_with (first | (at_builtin; refine app32 rfl _ _ rfl w.heap.size _ _ _ w _ _ hown rfl rfl (by omega) (Nat.le_refl _) hbw ?_; intro v' w2 hown' hbw'))
        obtain ⟨q1, q2, q3⟩ := HDQ.out
        have q4 := HXX.out
        have f1 : ((c : Int) + (a : Int) + (b : Int)) % 65536 = (d : Int) := by omega
        have f2 : ((c : Int) + (a : Int) + (b : Int)) / 65536 = (q : Int) := by omega
        try rw [f1] at hown'
        try rw [f2]
        have f3 : (q : Int) % 4294967296 = (q : Int) := by omega
        try rw [f3]
        refine ⟨HS.out d q v' w2 (by omega) q2 q3 hown' hbw', ?_⟩
        simp only [RowKit.intOf]
        omega
      · have k2 : ¬ (i : Int) < (m.length : Int) := by omega
        obtain ⟨x, hxx⟩ : ∃ x, x = c + l[i]?.getD 0 + m[i]?.getD 0 := ⟨_, rfl⟩
        have la := getD_lt hl i
        have lb := getD_lt hm i
        have lb0 := getD_none m i (by omega)
        have x1 : wr.cell? ⟨b1, o1 + i, none⟩ = some (.int .u32 ((l[i]?.getD 0 : Nat) : Int)) := (hbw.cell (p := ⟨b1, o1 + i, none⟩) hb1).trans (hc1 i (by omega))
        have STEP := fun (d c2 : Nat) (out : Value) (w2 : World) (h1 : d + 65536 * c2 = c + l[i]?.getD 0 + m[i]?.getD 0) (h2 : d < 65536) (h3 : c2 ≤ 1) => add_step (w := w) (d := d) (c2 := c2) (out := out) (wr := w2) hl hm HI.out HLT.out HV.out h1 h2 hc h3 (by omega) hil HLA.out
        have HS := (show Hid _ from STEP)
        clear STEP
        generalize l[i]?.getD 0 = a at *
        have e1 : IntKind.u32.wrap ((c : Int) + (a : Int)) = ((c + a : Nat) : Int) := by rw [IntKind.wrap_u32]; omega
        have e2 : ((c + a : Nat) : Int) = (x : Int) := by omega
        obtain ⟨d, hd⟩ : ∃ d, d = x % 65536 := ⟨_, rfl⟩
        obtain ⟨q, hq⟩ : ∃ q, q = x / 65536 := ⟨_, rfl⟩
        have e3 : (x : Int) % 65536 = (d : Int) := by omega
        have e4 : (x : Int) / 65536 = (q : Int) := by omega
        have HDQ : Hid (d + 65536 * q = x ∧ d < 65536 ∧ q ≤ 1) := (by omega : d + 65536 * q = x ∧ d < 65536 ∧ q ≤ 1)
        have HXX := (show Hid _ from hxx)
        clear hxx hd hq hc1 hc2
        go_wp2_with (first | (at_builtin; refine app32 rfl _ _ rfl w.heap.size _ _ _ w _ _ hown rfl rfl (by omega) (Nat.le_refl _) hbw ?_; intro v' w2 hown' hbw'))
        obtain ⟨q1, q2, q3⟩ := HDQ.out
        have q4 := HXX.out
        have f1 : ((c : Int) + (a : Int)) % 65536 = (d : Int) := by omega
        have f2 : ((c : Int) + (a : Int)) / 65536 = (q : Int) := by omega
        try rw [f1] at hown'
        try rw [f2]
        have f3 : (q : Int) % 4294967296 = (q : Int) := by omega
        try rw [f3]
        refine ⟨HS.out d q v' w2 (by omega) q2 q3 hown' hbw', ?_⟩
        simp only [RowKit.intOf]
        omega
    · have k1 : ¬ (i : Int) < (l.length : Int) := by omega
      by_cases g2 : i < m.length
      · have k2 : (i : Int) < (m.length : Int) := by omega
        obtain ⟨x, hxx⟩ : ∃ x, x = c + l[i]?.getD 0 + m[i]?.getD 0 := ⟨_, rfl⟩
        have la := getD_lt hl i
        have lb := getD_lt hm i
        have la0 := getD_none l i (by omega)
        have x2 : wr.cell? ⟨b2, o2 + i, none⟩ = some (.int .u32 ((m[i]?.getD 0 : Nat) : Int)) := (hbw.cell (p := ⟨b2, o2 + i, none⟩) hb2).trans (hc2 i (by omega))
        have STEP := fun (d c2 : Nat) (out : Value) (w2 : World) (h1 : d + 65536 * c2 = c + l[i]?.getD 0 + m[i]?.getD 0) (h2 : d < 65536) (h3 : c2 ≤ 1) => add_step (w := w) (d := d) (c2 := c2) (out := out) (wr := w2) hl hm HI.out HLT.out HV.out h1 h2 hc h3 (by omega) hil HLA.out
        have HS := (show Hid _ from STEP)
        clear STEP
        generalize m[i]?.getD 0 = b at *
        have e2 : IntKind.u32.wrap (((c : Nat) : Int) + (b : Int)) = (x : Int) := by rw [IntKind.wrap_u32]; omega
        obtain ⟨d, hd⟩ : ∃ d, d = x % 65536 := ⟨_, rfl⟩
        obtain ⟨q, hq⟩ : ∃ q, q = x / 65536 := ⟨_, rfl⟩
        have e3 : (x : Int) % 65536 = (d : Int) := by omega
        have e4 : (x : Int) / 65536 = (q : Int) := by omega
        have HDQ : Hid (d + 65536 * q = x ∧ d < 65536 ∧ q ≤ 1) := (by omega : d + 65536 * q = x ∧ d < 65536 ∧ q ≤ 1)
        have HXX := (show Hid _ from hxx)
        clear hxx hd hq hc1 hc2
        go_wp2_with (first | (at_builtin; refine app32 rfl _ _ rfl w.heap.size _ _ _ w _ _ hown rfl rfl (by omega) (Nat.le_refl _) hbw ?_; intro v' w2 hown' hbw'))
        obtain ⟨q1, q2, q3⟩ := HDQ.out
        have q4 := HXX.out
        have f1 : ((c : Int) + (b : Int)) % 65536 = (d : Int) := by omega
        have f2 : ((c : Int) + (b : Int)) / 65536 = (q : Int) := by omega
        try rw [f1] at hown'
        try rw [f2]
        have f3 : (q : Int) % 4294967296 = (q : Int) := by omega
        try rw [f3]
        refine ⟨HS.out d q v' w2 (by omega) q2 q3 hown' hbw', ?_⟩
        simp only [RowKit.intOf]
        omega
      · have k2 : ¬ (i : Int) < (m.length : Int) := by omega
        rcases Nat.eq_zero_or_pos c with g3 | g3
        · have HF : Hid (val done = val l + val m) := by
            show val done = val l + val m
            have h1 := HV.out
            rw [g3, List.drop_of_length_le (by omega), List.drop_of_length_le (by omega)] at h1
            simpa [val] using h1
          subst g3
          have ct := cut_any done u5 (by omega) HLT.out wr (row_owns hown)
          go_wp2_with (first | (go_at_call 117; refine ct.mono ?_; rintro e w1 ⟨v', rfl, hv', rfl⟩))
          go_ret
          exact ⟨v', rfl, by rw [← HF.out]; exact hv', hbw⟩
        · have k3 : (0 : Int) < (c : Int) := by omega
          obtain ⟨x, hxx⟩ : ∃ x, x = c + l[i]?.getD 0 + m[i]?.getD 0 := ⟨_, rfl⟩
          have la := getD_lt hl i
          have lb := getD_lt hm i
          have la0 := getD_none l i (by omega)
          have lb0 := getD_none m i (by omega)
          have STEP := fun (d c2 : Nat) (out : Value) (w2 : World) (h1 : d + 65536 * c2 = c + l[i]?.getD 0 + m[i]?.getD 0) (h2 : d < 65536) (h3 : c2 ≤ 1) => add_step (w := w) (d := d) (c2 := c2) (out := out) (wr := w2) hl hm HI.out HLT.out HV.out h1 h2 hc h3 (by omega) hil HLA.out
          have HS := (show Hid _ from STEP)
          clear STEP
          have e2 : (c : Int) = (x : Int) := by omega
          obtain ⟨d, hd⟩ : ∃ d, d = x % 65536 := ⟨_, rfl⟩
          obtain ⟨q, hq⟩ : ∃ q, q = x / 65536 := ⟨_, rfl⟩
          have e3 : (x : Int) % 65536 = (d : Int) := by omega
          have e4 : (x : Int) / 65536 = (q : Int) := by omega
          have HDQ : Hid (d + 65536 * q = x ∧ d < 65536 ∧ q ≤ 1) := (by omega : d + 65536 * q = x ∧ d < 65536 ∧ q ≤ 1)
          have HXX := (show Hid _ from hxx)
          clear hxx hd hq hc1 hc2
          go_wp2_with (first | (at_builtin; refine app32 rfl _ _ rfl w.heap.size _ _ _ w _ _ hown rfl rfl (by omega) (Nat.le_refl _) hbw ?_; intro v' w2 hown' hbw'))
          obtain ⟨q1, q2, q3⟩ := HDQ.out
          have q4 := HXX.out
          have f1 : ((c : Int)) % 65536 = (d : Int) := by omega
          have f2 : ((c : Int)) / 65536 = (q : Int) := by omega
          try rw [f1] at hown'
          try rw [f2]
          have f3 : (q : Int) % 4294967296 = (q : Int) := by omega
          try rw [f3]
          refine ⟨HS.out d q v' w2 (by omega) q2 q3 hown' hbw', ?_⟩
          simp only [RowKit.intOf]
          omega
set_option maxRecDepth 100000 in
set_option maxHeartbeats 4000000 in
theorem add_10 (l m : List Nat) (b1 o1 c1 b2 o2 c2 : Nat) (oa ob : Option Addr) (hl : ∀ d ∈ l, d < 65536) (hm : ∀ d ∈ m, d < 65536) (hll : l.length ≤ 1000) (hml : m.length ≤ 1000) (w : World)
    (hb1 : b1 < w.heap.size) (hc1 : ∀ j, j < l.length → w.cell? ⟨b1, o1 + j, none⟩ = some (.int .u32 ((l[j]?.getD 0 : Nat) : Int)))
    (hm0 : m.length = 0)
    : Calls Tryz.prog 69 #[.slice (some ⟨b1, o1, none⟩) l.length c1, .slice ob 0 c2] w fun e w' => ∃ v, e = .returned v ∧ NatIs w' v (val l + val m) ∧ Below w.heap.size w w' := by
  go_enter Tryz.func69, Tryz.ntmps69
  go_wp2
  go_loopw [5, 6, 7] (fun out carry vi wr => AddR w l m out carry vi wr) (fun _ carry vi _ => 2 * (l.length + m.length - (RowKit.intOf vi).toNat) + (RowKit.intOf carry).toNat)
  case atStart => exact ⟨0, 0, [], World.ownsRow_nil _ _ _ _, rfl, rfl, rfl, by omega, by omega, by simp, by simp [val], by omega, Below.refl _ _⟩
  case round =>
    obtain ⟨i, c, done, hown, rfl, rfl, hi, hc, hil, hlt, hval, hlast, hbw⟩ := hrel
    have HV : Hid (val done + 65536 ^ i * (c + val (l.drop i) + val (m.drop i)) = val l + val m) := hval
    have HLT : Hid (∀ d ∈ done, d < 65536) := hlt
    have HI : Hid (done.length = i) := hi
    have HLA : Hid (i = l.length + m.length + 1 → c = 0) := hlast
    have hdl : done.length ≤ 3000 := by omega
    clear hval hlt hi hlast
    by_cases g1 : i < l.length
    · have k1 : (i : Int) < (l.length : Int) := by omega
      by_cases g2 : i < m.length
      · omega
      · have k2 : ¬ (i : Int) < 0 := by omega
        obtain ⟨x, hxx⟩ : ∃ x, x = c + l[i]?.getD 0 + m[i]?.getD 0 := ⟨_, rfl⟩
        have la := getD_lt hl i
        have lb := getD_lt hm i
        have lb0 := getD_none m i (by omega)
        have x1 : wr.cell? ⟨b1, o1 + i, none⟩ = some (.int .u32 ((l[i]?.getD 0 : Nat) : Int)) := (hbw.cell (p := ⟨b1, o1 + i, none⟩) hb1).trans (hc1 i (by omega))
        have STEP := fun (d c2 : Nat) (out : Value) (w2 : World) (h1 : d + 65536 * c2 = c + l[i]?.getD 0 + m[i]?.getD 0) (h2 : d < 65536) (h3 : c2 ≤ 1) => add_step (w := w) (d := d) (c2 := c2) (out := out) (wr := w2) hl hm HI.out HLT.out HV.out h1 h2 hc h3 (by omega) hil HLA.out
        have HS := (show Hid _ from STEP)
        clear STEP
        generalize l[i]?.getD 0 = a at *
        have e1 : IntKind.u32.wrap ((c : Int) + (a : Int)) = ((c + a : Nat) : Int) := by rw [IntKind.wrap_u32]; omega
        have e2 : ((c + a : Nat) : Int) = (x : Int) := by omega
        obtain ⟨d, hd⟩ : ∃ d, d = x % 65536 := ⟨_, rfl⟩
        obtain ⟨q, hq⟩ : ∃ q, q = x / 65536 := ⟨_, rfl⟩
        have e3 : (x : Int) % 65536 = (d : Int) := by omega
        have e4 : (x : Int) / 65536 = (q : Int) := by omega
        have HDQ : Hid (d + 65536 * q = x ∧ d < 65536 ∧ q ≤ 1) := (by omega : d + 65536 * q = x ∧ d < 65536 ∧ q ≤ 1)
        have HXX := (show Hid _ from hxx)
        clear hxx hd hq hc1
        go_wp2_with (first | (at_builtin; refine app32 rfl _ _ rfl w.heap.size _ _ _ w _ _ hown rfl rfl (by omega) (Nat.le_refl _) hbw ?_; intro v' w2 hown' hbw'))
        obtain ⟨q1, q2, q3⟩ := HDQ.out
        have q4 := HXX.out
        have f1 : ((c : Int) + (a : Int)) % 65536 = (d : Int) := by omega
        have f2 : ((c : Int) + (a : Int)) / 65536 = (q : Int) := by omega
        try rw [f1] at hown'
        try rw [f2]
        have f3 : (q : Int) % 4294967296 = (q : Int) := by omega
        try rw [f3]
        refine ⟨HS.out d q v' w2 (by omega) q2 q3 hown' hbw', ?_⟩
        simp only [RowKit.intOf]
        omega
    · have k1 : ¬ (i : Int) < (l.length : Int) := by omega
      by_cases g2 : i < m.length
      · omega
      · have k2 : ¬ (i : Int) < 0 := by omega
        rcases Nat.eq_zero_or_pos c with g3 | g3
        · have HF : Hid (val done = val l + val m) := by
            show val done = val l + val m
            have h1 := HV.out
            rw [g3, List.drop_of_length_le (by omega), List.drop_of_length_le (by omega)] at h1
            simpa [val] using h1
          subst g3
          have ct := cut_any done u5 (by omega) HLT.out wr (row_owns hown)
          go_wp2_with (first | (go_at_call 117; refine ct.mono ?_; rintro e w1 ⟨v', rfl, hv', rfl⟩))
          go_ret
          exact ⟨v', rfl, by rw [← HF.out]; exact hv', hbw⟩
        · have k3 : (0 : Int) < (c : Int) := by omega
          obtain ⟨x, hxx⟩ : ∃ x, x = c + l[i]?.getD 0 + m[i]?.getD 0 := ⟨_, rfl⟩
          have la := getD_lt hl i
          have lb := getD_lt hm i
          have la0 := getD_none l i (by omega)
          have lb0 := getD_none m i (by omega)
          have STEP := fun (d c2 : Nat) (out : Value) (w2 : World) (h1 : d + 65536 * c2 = c + l[i]?.getD 0 + m[i]?.getD 0) (h2 : d < 65536) (h3 : c2 ≤ 1) => add_step (w := w) (d := d) (c2 := c2) (out := out) (wr := w2) hl hm HI.out HLT.out HV.out h1 h2 hc h3 (by omega) hil HLA.out
          have HS := (show Hid _ from STEP)
          clear STEP
          have e2 : (c : Int) = (x : Int) := by omega
          obtain ⟨d, hd⟩ : ∃ d, d = x % 65536 := ⟨_, rfl⟩
          obtain ⟨q, hq⟩ : ∃ q, q = x / 65536 := ⟨_, rfl⟩
          have e3 : (x : Int) % 65536 = (d : Int) := by omega
          have e4 : (x : Int) / 65536 = (q : Int) := by omega
          have HDQ : Hid (d + 65536 * q = x ∧ d < 65536 ∧ q ≤ 1) := (by omega : d + 65536 * q = x ∧ d < 65536 ∧ q ≤ 1)
          have HXX := (show Hid _ from hxx)
          clear hxx hd hq hc1
          go_wp2_with (first | (at_builtin; refine app32 rfl _ _ rfl w.heap.size _ _ _ w _ _ hown rfl rfl (by omega) (Nat.le_refl _) hbw ?_; intro v' w2 hown' hbw'))
          obtain ⟨q1, q2, q3⟩ := HDQ.out
          have q4 := HXX.out
          have f1 : ((c : Int)) % 65536 = (d : Int) := by omega
          have f2 : ((c : Int)) / 65536 = (q : Int) := by omega
          try rw [f1] at hown'
          try rw [f2]
          have f3 : (q : Int) % 4294967296 = (q : Int) := by omega
          try rw [f3]
          refine ⟨HS.out d q v' w2 (by omega) q2 q3 hown' hbw', ?_⟩
          simp only [RowKit.intOf]
          omega
set_option maxRecDepth 100000 in
set_option maxHeartbeats 4000000 in
theorem add_01 (l m : List Nat) (b1 o1 c1 b2 o2 c2 : Nat) (oa ob : Option Addr) (hl : ∀ d ∈ l, d < 65536) (hm : ∀ d ∈ m, d < 65536) (hll : l.length ≤ 1000) (hml : m.length ≤ 1000) (w : World)
    (hl0 : l.length = 0)
    (hb2 : b2 < w.heap.size) (hc2 : ∀ j, j < m.length → w.cell? ⟨b2, o2 + j, none⟩ = some (.int .u32 ((m[j]?.getD 0 : Nat) : Int)))
    : Calls Tryz.prog 69 #[.slice oa 0 c1, .slice (some ⟨b2, o2, none⟩) m.length c2] w fun e w' => ∃ v, e = .returned v ∧ NatIs w' v (val l + val m) ∧ Below w.heap.size w w' := by
  go_enter Tryz.func69, Tryz.ntmps69
  go_wp2
  go_loopw [5, 6, 7] (fun out carry vi wr => AddR w l m out carry vi wr) (fun _ carry vi _ => 2 * (l.length + m.length - (RowKit.intOf vi).toNat) + (RowKit.intOf carry).toNat)
  case atStart => exact ⟨0, 0, [], World.ownsRow_nil _ _ _ _, rfl, rfl, rfl, by omega, by omega, by simp, by simp [val], by omega, Below.refl _ _⟩
  case round =>
    obtain ⟨i, c, done, hown, rfl, rfl, hi, hc, hil, hlt, hval, hlast, hbw⟩ := hrel
    have HV : Hid (val done + 65536 ^ i * (c + val (l.drop i) + val (m.drop i)) = val l + val m) := hval
    have HLT : Hid (∀ d ∈ done, d < 65536) := hlt
    have HI : Hid (done.length = i) := hi
    have HLA : Hid (i = l.length + m.length + 1 → c = 0) := hlast
    have hdl : done.length ≤ 3000 := by omega
    clear hval hlt hi hlast
    by_cases g1 : i < l.length
    · omega
    · have k1 : ¬ (i : Int) < 0 := by omega
      by_cases g2 : i < m.length
      · have k2 : (i : Int) < (m.length : Int) := by omega
        obtain ⟨x, hxx⟩ : ∃ x, x = c + l[i]?.getD 0 + m[i]?.getD 0 := ⟨_, rfl⟩
        have la := getD_lt hl i
        have lb := getD_lt hm i
        have la0 := getD_none l i (by omega)
        have x2 : wr.cell? ⟨b2, o2 + i, none⟩ = some (.int .u32 ((m[i]?.getD 0 : Nat) : Int)) := (hbw.cell (p := ⟨b2, o2 + i, none⟩) hb2).trans (hc2 i (by omega))
        have STEP := fun (d c2 : Nat) (out : Value) (w2 : World) (h1 : d + 65536 * c2 = c + l[i]?.getD 0 + m[i]?.getD 0) (h2 : d < 65536) (h3 : c2 ≤ 1) => add_step (w := w) (d := d) (c2 := c2) (out := out) (wr := w2) hl hm HI.out HLT.out HV.out h1 h2 hc h3 (by omega) hil HLA.out
        have HS := (show Hid _ from STEP)
        clear STEP
        generalize m[i]?.getD 0 = b at *
        have e2 : IntKind.u32.wrap (((c : Nat) : Int) + (b : Int)) = (x : Int) := by rw [IntKind.wrap_u32]; omega
        obtain ⟨d, hd⟩ : ∃ d, d = x % 65536 := ⟨_, rfl⟩
        obtain ⟨q, hq⟩ : ∃ q, q = x / 65536 := ⟨_, rfl⟩
        have e3 : (x : Int) % 65536 = (d : Int) := by omega
        have e4 : (x : Int) / 65536 = (q : Int) := by omega
        have HDQ : Hid (d + 65536 * q = x ∧ d < 65536 ∧ q ≤ 1) := (by omega : d + 65536 * q = x ∧ d < 65536 ∧ q ≤ 1)
        have HXX := (show Hid _ from hxx)
        clear hxx hd hq hc2
        go_wp2_with (first | (at_builtin; refine app32 rfl _ _ rfl w.heap.size _ _ _ w _ _ hown rfl rfl (by omega) (Nat.le_refl _) hbw ?_; intro v' w2 hown' hbw'))
        obtain ⟨q1, q2, q3⟩ := HDQ.out
        have q4 := HXX.out
        have f1 : ((c : Int) + (b : Int)) % 65536 = (d : Int) := by omega
        have f2 : ((c : Int) + (b : Int)) / 65536 = (q : Int) := by omega
        try rw [f1] at hown'
        try rw [f2]
        have f3 : (q : Int) % 4294967296 = (q : Int) := by omega
        try rw [f3]
        refine ⟨HS.out d q v' w2 (by omega) q2 q3 hown' hbw', ?_⟩
        simp only [RowKit.intOf]
        omega
      · have k2 : ¬ (i : Int) < (m.length : Int) := by omega
        rcases Nat.eq_zero_or_pos c with g3 | g3
        · have HF : Hid (val done = val l + val m) := by
            show val done = val l + val m
            have h1 := HV.out
            rw [g3, List.drop_of_length_le (by omega), List.drop_of_length_le (by omega)] at h1
            simpa [val] using h1
          subst g3
          have ct := cut_any done u5 (by omega) HLT.out wr (row_owns hown)
          go_wp2_with (first | (go_at_call 117; refine ct.mono ?_; rintro e w1 ⟨v', rfl, hv', rfl⟩))
          go_ret
          exact ⟨v', rfl, by rw [← HF.out]; exact hv', hbw⟩
        · have k3 : (0 : Int) < (c : Int) := by omega
          obtain ⟨x, hxx⟩ : ∃ x, x = c + l[i]?.getD 0 + m[i]?.getD 0 := ⟨_, rfl⟩
          have la := getD_lt hl i
          have lb := getD_lt hm i
          have la0 := getD_none l i (by omega)
          have lb0 := getD_none m i (by omega)
          have STEP := fun (d c2 : Nat) (out : Value) (w2 : World) (h1 : d + 65536 * c2 = c + l[i]?.getD 0 + m[i]?.getD 0) (h2 : d < 65536) (h3 : c2 ≤ 1) => add_step (w := w) (d := d) (c2 := c2) (out := out) (wr := w2) hl hm HI.out HLT.out HV.out h1 h2 hc h3 (by omega) hil HLA.out
          have HS := (show Hid _ from STEP)
          clear STEP
          have e2 : (c : Int) = (x : Int) := by omega
          obtain ⟨d, hd⟩ : ∃ d, d = x % 65536 := ⟨_, rfl⟩
          obtain ⟨q, hq⟩ : ∃ q, q = x / 65536 := ⟨_, rfl⟩
          have e3 : (x : Int) % 65536 = (d : Int) := by omega
          have e4 : (x : Int) / 65536 = (q : Int) := by omega
          have HDQ : Hid (d + 65536 * q = x ∧ d < 65536 ∧ q ≤ 1) := (by omega : d + 65536 * q = x ∧ d < 65536 ∧ q ≤ 1)
          have HXX := (show Hid _ from hxx)
          clear hxx hd hq hc2
          go_wp2_with (first | (at_builtin; refine app32 rfl _ _ rfl w.heap.size _ _ _ w _ _ hown rfl rfl (by omega) (Nat.le_refl _) hbw ?_; intro v' w2 hown' hbw'))
          obtain ⟨q1, q2, q3⟩ := HDQ.out
          have q4 := HXX.out
          have f1 : ((c : Int)) % 65536 = (d : Int) := by omega
          have f2 : ((c : Int)) / 65536 = (q : Int) := by omega
          try rw [f1] at hown'
          try rw [f2]
          have f3 : (q : Int) % 4294967296 = (q : Int) := by omega
          try rw [f3]
          refine ⟨HS.out d q v' w2 (by omega) q2 q3 hown' hbw', ?_⟩
          simp only [RowKit.intOf]
          omega
set_option maxRecDepth 100000 in
set_option maxHeartbeats 4000000 in
theorem add_00 (l m : List Nat) (b1 o1 c1 b2 o2 c2 : Nat) (oa ob : Option Addr) (hl : ∀ d ∈ l, d < 65536) (hm : ∀ d ∈ m, d < 65536) (hll : l.length ≤ 1000) (hml : m.length ≤ 1000) (w : World)
    (hl0 : l.length = 0)
    (hm0 : m.length = 0)
    : Calls Tryz.prog 69 #[.slice oa 0 c1, .slice ob 0 c2] w fun e w' => ∃ v, e = .returned v ∧ NatIs w' v (val l + val m) ∧ Below w.heap.size w w' := by
  go_enter Tryz.func69, Tryz.ntmps69
  go_wp2
  go_loopw [5, 6, 7] (fun out carry vi wr => AddR w l m out carry vi wr) (fun _ carry vi _ => 2 * (l.length + m.length - (RowKit.intOf vi).toNat) + (RowKit.intOf carry).toNat)
  case atStart => exact ⟨0, 0, [], World.ownsRow_nil _ _ _ _, rfl, rfl, rfl, by omega, by omega, by simp, by simp [val], by omega, Below.refl _ _⟩
  case round =>
    obtain ⟨i, c, done, hown, rfl, rfl, hi, hc, hil, hlt, hval, hlast, hbw⟩ := hrel
    have HV : Hid (val done + 65536 ^ i * (c + val (l.drop i) + val (m.drop i)) = val l + val m) := hval
    have HLT : Hid (∀ d ∈ done, d < 65536) := hlt
    have HI : Hid (done.length = i) := hi
    have HLA : Hid (i = l.length + m.length + 1 → c = 0) := hlast
    have hdl : done.length ≤ 3000 := by omega
    clear hval hlt hi hlast
    by_cases g1 : i < l.length
    · omega
    · have k1 : ¬ (i : Int) < 0 := by omega
      by_cases g2 : i < m.length
      · omega
      · have k2 : ¬ (i : Int) < 0 := by omega
        rcases Nat.eq_zero_or_pos c with g3 | g3
        · have HF : Hid (val done = val l + val m) := by
            show val done = val l + val m
            have h1 := HV.out
            rw [g3, List.drop_of_length_le (by omega), List.drop_of_length_le (by omega)] at h1
            simpa [val] using h1
          subst g3
          have ct := cut_any done u5 (by omega) HLT.out wr (row_owns hown)
          go_wp2_with (first | (go_at_call 117; refine ct.mono ?_; rintro e w1 ⟨v', rfl, hv', rfl⟩))
          go_ret
          exact ⟨v', rfl, by rw [← HF.out]; exact hv', hbw⟩
        · have k3 : (0 : Int) < (c : Int) := by omega
          obtain ⟨x, hxx⟩ : ∃ x, x = c + l[i]?.getD 0 + m[i]?.getD 0 := ⟨_, rfl⟩
          have la := getD_lt hl i
          have lb := getD_lt hm i
          have la0 := getD_none l i (by omega)
          have lb0 := getD_none m i (by omega)
          have STEP := fun (d c2 : Nat) (out : Value) (w2 : World) (h1 : d + 65536 * c2 = c + l[i]?.getD 0 + m[i]?.getD 0) (h2 : d < 65536) (h3 : c2 ≤ 1) => add_step (w := w) (d := d) (c2 := c2) (out := out) (wr := w2) hl hm HI.out HLT.out HV.out h1 h2 hc h3 (by omega) hil HLA.out
          have HS := (show Hid _ from STEP)
          clear STEP
          have e2 : (c : Int) = (x : Int) := by omega
          obtain ⟨d, hd⟩ : ∃ d, d = x % 65536 := ⟨_, rfl⟩
          obtain ⟨q, hq⟩ : ∃ q, q = x / 65536 := ⟨_, rfl⟩
          have e3 : (x : Int) % 65536 = (d : Int) := by omega
          have e4 : (x : Int) / 65536 = (q : Int) := by omega
          have HDQ : Hid (d + 65536 * q = x ∧ d < 65536 ∧ q ≤ 1) := (by omega : d + 65536 * q = x ∧ d < 65536 ∧ q ≤ 1)
          have HXX := (show Hid _ from hxx)
          clear hxx hd hq
          go_wp2_with (first | (at_builtin; refine app32 rfl _ _ rfl w.heap.size _ _ _ w _ _ hown rfl rfl (by omega) (Nat.le_refl _) hbw ?_; intro v' w2 hown' hbw'))
          obtain ⟨q1, q2, q3⟩ := HDQ.out
          have q4 := HXX.out
          have f1 : ((c : Int)) % 65536 = (d : Int) := by omega
          have f2 : ((c : Int)) / 65536 = (q : Int) := by omega
          try rw [f1] at hown'
          try rw [f2]
          have f3 : (q : Int) % 4294967296 = (q : Int) := by omega
          try rw [f3]
          refine ⟨HS.out d q v' w2 (by omega) q2 q3 hown' hbw', ?_⟩
          simp only [RowKit.intOf]
          omega
/-- **Add.** -/
theorem add_any (u v : Value) (x y : Nat) (w : World) (hx : NatIs w u x) (hy : NatIs w v y) (bx : x < pw 1000) (by' : y < pw 1000) :
    Calls Tryz.prog 69 #[u, v] w fun e w' => ∃ r, e = .returned r ∧ NatIs w' r (x + y) ∧ Below w.heap.size w w' := by
  obtain ⟨l, hl1, hl2, rfl⟩ := hx
  obtain ⟨m, hm1, hm2, rfl⟩ := hy
  have l1 := len_le hl2 bx
  have l2 := len_le hm2 by'
  rcases hl1 with ⟨⟨oa, c1, rfl, _⟩, hle⟩ | ⟨b1, o1, c1, rfl, _, hb1, hc1⟩
  · rcases hm1 with ⟨⟨ob, c2, rfl, _⟩, hme⟩ | ⟨b2, o2, c2, rfl, _, hb2, hc2⟩
    · exact add_00 l m 0 0 c1 0 0 c2 oa ob hl2.1 hm2.1 l1 l2 w (by rw [hle]; rfl) (by rw [hme]; rfl)
    · exact add_01 l m 0 0 c1 b2 o2 c2 oa none hl2.1 hm2.1 l1 l2 w (by rw [hle]; rfl) hb2 hc2
  · rcases hm1 with ⟨⟨ob, c2, rfl, _⟩, hme⟩ | ⟨b2, o2, c2, rfl, _, hb2, hc2⟩
    · exact add_10 l m b1 o1 c1 0 0 c2 none ob hl2.1 hm2.1 l1 l2 w hb1 hc1 (by rw [hme]; rfl)
    · exact add_11 l m b1 o1 c1 b2 o2 c2 none none hl2.1 hm2.1 l1 l2 w hb1 hc1 hb2 hc2
end Go.Proofs.YtellndmbllmjgaaGreatDoor
/- Sub. -/
set_option linter.unusedVariables false
namespace Go.Proofs.YtellndmbllmjgaaGreatDoor
open Go.RowKit Go.Shelf Go.Sort Fs Fl

/-- What holds ahead of each round of Sub. -/
def SubR (w : World) (l m : List Nat) (out borrow vi : Value) (wr : World) : Prop :=
  ∃ (i c : Nat) (done : List Nat), wr.ownsRow w.heap.size 108 1 out done.length (done.map dv) ∧ borrow = .int .u32 (c : Int) ∧ vi = .int .i64 (i : Int) ∧ done.length = i ∧ c ≤ 1 ∧ i ≤ l.length ∧ (∀ d ∈ done, d < 65536) ∧ val done + 65536 ^ i * val (l.drop i) + val m = val l + 65536 ^ i * (c + val (m.drop i)) ∧ Below w.heap.size w wr
theorem sub_step {w : World} {l m : List Nat} {done : List Nat} {i c d c2 : Nat} {out : Value} {wr : World} (hi : done.length = i) (hlt : ∀ d ∈ done, d < 65536)
    (hv : val done + 65536 ^ i * val (l.drop i) + val m = val l + 65536 ^ i * (c + val (m.drop i))) (hx : l[i]?.getD 0 + 65536 * c2 = d + c + m[i]?.getD 0) (hd : d < 65536) (hc2 : c2 ≤ 1) (hil : i < l.length)
    (hown : wr.ownsRow w.heap.size 108 1 out (done.length + 1) (done.map dv ++ [.int .u32 (d : Int)])) (hb : Below w.heap.size w wr) :
    SubR w l m out (.int .u32 (c2 : Int)) (.int .i64 ((i : Int) + 1)) wr := by
  refine ⟨i + 1, c2, done ++ [d], ?_, rfl, by simp, by simp [hi], hc2, by omega, ?_, ?_, hb⟩
  · rw [List.length_append, List.map_append]
    exact hown
  · intro z hz
    rcases List.mem_append.1 hz with h | h
    · exact hlt z h
    · rw [List.mem_singleton.1 h]
      exact hd
  · rw [drop_val l i, drop_val m i] at hv
    rw [val_append, hi, Nat.pow_succ]
    simp only [val]
    generalize val (l.drop (i + 1)) = L at *
    generalize val (m.drop (i + 1)) = M at *
    generalize val done = D at *
    generalize val l = VL at *
    generalize val m = VM at *
    generalize 65536 ^ i = P at *
    generalize l[i]?.getD 0 = a at *
    generalize m[i]?.getD 0 = b at *
    have e1 : P * (a + 65536 * c2) = P * (d + c + b) := by rw [hx]
    grind
set_option maxRecDepth 100000 in
set_option maxHeartbeats 4000000 in
theorem sub_11 (l m : List Nat) (b1 o1 c1 b2 o2 c2 : Nat) (ob : Option Addr) (hl : ∀ d ∈ l, d < 65536) (hm : ∀ d ∈ m, d < 65536) (hll : l.length ≤ 1000) (hml : m.length ≤ l.length) (hxy : val m ≤ val l) (w : World)
    (hb1 : b1 < w.heap.size) (hc1 : ∀ j, j < l.length → w.cell? ⟨b1, o1 + j, none⟩ = some (.int .u32 ((l[j]?.getD 0 : Nat) : Int)))
    (hb2 : b2 < w.heap.size) (hc2 : ∀ j, j < m.length → w.cell? ⟨b2, o2 + j, none⟩ = some (.int .u32 ((m[j]?.getD 0 : Nat) : Int)))
    : Calls Tryz.prog 68 #[.slice (some ⟨b1, o1, none⟩) l.length c1, .slice (some ⟨b2, o2, none⟩) m.length c2] w fun e w' => ∃ v, e = .returned v ∧ NatIs w' v (val l - val m) ∧ Below w.heap.size w w' := by
  go_enter Tryz.func68, Tryz.ntmps68
  go_wp2
  go_loopw [5, 6, 7] (fun out borrow vi wr => SubR w l m out borrow vi wr) (fun _ _ vi _ => l.length - (RowKit.intOf vi).toNat)
  case atStart => exact ⟨0, 0, [], World.ownsRow_nil _ _ _ _, rfl, rfl, rfl, by omega, by omega, by simp, by simp [val], Below.refl _ _⟩
  case round =>
    obtain ⟨i, c, done, hown, rfl, rfl, hi, hc, hil, hlt, hval, hbw⟩ := hrel
    have HV : Hid (val done + 65536 ^ i * val (l.drop i) + val m = val l + 65536 ^ i * (c + val (m.drop i))) := hval
    have HLT : Hid (∀ d ∈ done, d < 65536) := hlt
    have HI : Hid (done.length = i) := hi
    have hdl : done.length ≤ 3000 := by omega
    clear hval hlt hi
    by_cases g1 : i < l.length
    · have k1 : (i : Int) < (l.length : Int) := by omega
      by_cases g2 : i < m.length
      · have k2 : (i : Int) < (m.length : Int) := by omega
        have la := getD_lt hl i
        have lb := getD_lt hm i
        have x1 : wr.cell? ⟨b1, o1 + i, none⟩ = some (.int .u32 ((l[i]?.getD 0 : Nat) : Int)) := (hbw.cell (p := ⟨b1, o1 + i, none⟩) hb1).trans (hc1 i (by omega))
        have x2 : wr.cell? ⟨b2, o2 + i, none⟩ = some (.int .u32 ((m[i]?.getD 0 : Nat) : Int)) := (hbw.cell (p := ⟨b2, o2 + i, none⟩) hb2).trans (hc2 i (by omega))
        have STEP := fun (d c2 : Nat) (out : Value) (w2 : World) (h1 : l[i]?.getD 0 + 65536 * c2 = d + c + m[i]?.getD 0) (h2 : d < 65536) (h3 : c2 ≤ 1) => sub_step (w := w) (d := d) (c2 := c2) (out := out) (wr := w2) HI.out HLT.out HV.out h1 h2 h3 g1
        have HS := (show Hid _ from STEP)
        clear STEP
        generalize l[i]?.getD 0 = a at *
        generalize m[i]?.getD 0 = b at *
        obtain ⟨x, hxx⟩ : ∃ x, x = a + 65536 - c - b := ⟨_, rfl⟩
        obtain ⟨d, hd⟩ : ∃ d, d = x % 65536 := ⟨_, rfl⟩
        obtain ⟨q, hq⟩ : ∃ q, q = 1 - x / 65536 := ⟨_, rfl⟩
        have HDQ : Hid (a + 65536 * q = d + c + b ∧ d < 65536 ∧ q ≤ 1) := (by omega : a + 65536 * q = d + c + b ∧ d < 65536 ∧ q ≤ 1)
        have HX : Hid (x = a + 65536 - c - b ∧ d = x % 65536 ∧ q = 1 - x / 65536) := ⟨hxx, hd, hq⟩
        clear hxx hd hq hc1 hc2
        go_wp2_with (first | (at_builtin; refine app32 rfl _ _ rfl w.heap.size _ _ _ w _ _ hown rfl rfl (by omega) (Nat.le_refl _) hbw ?_; intro v' w2 hown' hbw'))
        obtain ⟨q1, q2, q3⟩ := HDQ.out
        obtain ⟨q4, q5, q6⟩ := HX.out
        have f1 : ((a : Int) + 65536 - (c : Int) - (b : Int)) % 65536 = (d : Int) := by omega
        have f2 : 1 - ((a : Int) + 65536 - (c : Int) - (b : Int)) / 65536 = (q : Int) := by omega
        rw [f1] at hown'
        rw [f2]
        refine ⟨HS.out d q v' w2 q1 q2 q3 hown' hbw', ?_⟩
        simp only [RowKit.intOf]
        omega
      · have k2 : ¬ (i : Int) < (m.length : Int) := by omega
        have la := getD_lt hl i
        have lb := getD_lt hm i
        have lb0 := getD_none m i (by omega)
        have x1 : wr.cell? ⟨b1, o1 + i, none⟩ = some (.int .u32 ((l[i]?.getD 0 : Nat) : Int)) := (hbw.cell (p := ⟨b1, o1 + i, none⟩) hb1).trans (hc1 i (by omega))
        have STEP := fun (d c2 : Nat) (out : Value) (w2 : World) (h1 : l[i]?.getD 0 + 65536 * c2 = d + c + m[i]?.getD 0) (h2 : d < 65536) (h3 : c2 ≤ 1) => sub_step (w := w) (d := d) (c2 := c2) (out := out) (wr := w2) HI.out HLT.out HV.out h1 h2 h3 g1
        have HS := (show Hid _ from STEP)
        clear STEP
        generalize l[i]?.getD 0 = a at *
        generalize m[i]?.getD 0 = b at *
        obtain ⟨x, hxx⟩ : ∃ x, x = a + 65536 - c - b := ⟨_, rfl⟩
        obtain ⟨d, hd⟩ : ∃ d, d = x % 65536 := ⟨_, rfl⟩
        obtain ⟨q, hq⟩ : ∃ q, q = 1 - x / 65536 := ⟨_, rfl⟩
        have HDQ : Hid (a + 65536 * q = d + c + b ∧ d < 65536 ∧ q ≤ 1) := (by omega : a + 65536 * q = d + c + b ∧ d < 65536 ∧ q ≤ 1)
        have HX : Hid (x = a + 65536 - c - b ∧ d = x % 65536 ∧ q = 1 - x / 65536) := ⟨hxx, hd, hq⟩
        clear hxx hd hq hc1 hc2
        go_wp2_with (first | (at_builtin; refine app32 rfl _ _ rfl w.heap.size _ _ _ w _ _ hown rfl rfl (by omega) (Nat.le_refl _) hbw ?_; intro v' w2 hown' hbw'))
        obtain ⟨q1, q2, q3⟩ := HDQ.out
        obtain ⟨q4, q5, q6⟩ := HX.out
        have f1 : ((a : Int) + 65536 - (c : Int)) % 65536 = (d : Int) := by omega
        have f2 : 1 - ((a : Int) + 65536 - (c : Int)) / 65536 = (q : Int) := by omega
        rw [f1] at hown'
        rw [f2]
        refine ⟨HS.out d q v' w2 q1 q2 q3 hown' hbw', ?_⟩
        simp only [RowKit.intOf]
        omega
    · have k1 : ¬ (i : Int) < (l.length : Int) := by omega
      have HF : Hid (val done = val l - val m) := by
        show val done = val l - val m
        have h1 := HV.out
        rw [List.drop_of_length_le (by omega), List.drop_of_length_le (by omega)] at h1
        simp only [val, Nat.mul_zero, Nat.add_zero] at h1
        have h2 := val_lt done HLT.out
        rw [HI.out] at h2
        rcases Nat.eq_zero_or_pos c with h3 | h3
        · rw [h3, Nat.mul_zero] at h1
          omega
        · have h4 : c = 1 := by omega
          rw [h4, Nat.mul_one] at h1
          omega
      have ct := cut_any done u5 (by omega) HLT.out wr (row_owns hown)
      go_wp2_with (first | (go_at_call 117; refine ct.mono ?_; rintro e w1 ⟨v', rfl, hv', rfl⟩))
      go_ret
      exact ⟨v', rfl, by rw [← HF.out]; exact hv', hbw⟩
set_option maxRecDepth 100000 in
set_option maxHeartbeats 4000000 in
theorem sub_10 (l m : List Nat) (b1 o1 c1 b2 o2 c2 : Nat) (ob : Option Addr) (hl : ∀ d ∈ l, d < 65536) (hm : ∀ d ∈ m, d < 65536) (hll : l.length ≤ 1000) (hml : m.length ≤ l.length) (hxy : val m ≤ val l) (w : World)
    (hb1 : b1 < w.heap.size) (hc1 : ∀ j, j < l.length → w.cell? ⟨b1, o1 + j, none⟩ = some (.int .u32 ((l[j]?.getD 0 : Nat) : Int)))
    (hm0 : m.length = 0)
    : Calls Tryz.prog 68 #[.slice (some ⟨b1, o1, none⟩) l.length c1, .slice ob 0 c2] w fun e w' => ∃ v, e = .returned v ∧ NatIs w' v (val l - val m) ∧ Below w.heap.size w w' := by
  go_enter Tryz.func68, Tryz.ntmps68
  go_wp2
  go_loopw [5, 6, 7] (fun out borrow vi wr => SubR w l m out borrow vi wr) (fun _ _ vi _ => l.length - (RowKit.intOf vi).toNat)
  case atStart => exact ⟨0, 0, [], World.ownsRow_nil _ _ _ _, rfl, rfl, rfl, by omega, by omega, by simp, by simp [val], Below.refl _ _⟩
  case round =>
    obtain ⟨i, c, done, hown, rfl, rfl, hi, hc, hil, hlt, hval, hbw⟩ := hrel
    have HV : Hid (val done + 65536 ^ i * val (l.drop i) + val m = val l + 65536 ^ i * (c + val (m.drop i))) := hval
    have HLT : Hid (∀ d ∈ done, d < 65536) := hlt
    have HI : Hid (done.length = i) := hi
    have hdl : done.length ≤ 3000 := by omega
    clear hval hlt hi
    by_cases g1 : i < l.length
    · have k1 : (i : Int) < (l.length : Int) := by omega
      by_cases g2 : i < m.length
      · omega
      · have k2 : ¬ (i : Int) < 0 := by omega
        have la := getD_lt hl i
        have lb := getD_lt hm i
        have lb0 := getD_none m i (by omega)
        have x1 : wr.cell? ⟨b1, o1 + i, none⟩ = some (.int .u32 ((l[i]?.getD 0 : Nat) : Int)) := (hbw.cell (p := ⟨b1, o1 + i, none⟩) hb1).trans (hc1 i (by omega))
        have STEP := fun (d c2 : Nat) (out : Value) (w2 : World) (h1 : l[i]?.getD 0 + 65536 * c2 = d + c + m[i]?.getD 0) (h2 : d < 65536) (h3 : c2 ≤ 1) => sub_step (w := w) (d := d) (c2 := c2) (out := out) (wr := w2) HI.out HLT.out HV.out h1 h2 h3 g1
        have HS := (show Hid _ from STEP)
        clear STEP
        generalize l[i]?.getD 0 = a at *
        generalize m[i]?.getD 0 = b at *
        obtain ⟨x, hxx⟩ : ∃ x, x = a + 65536 - c - b := ⟨_, rfl⟩
        obtain ⟨d, hd⟩ : ∃ d, d = x % 65536 := ⟨_, rfl⟩
        obtain ⟨q, hq⟩ : ∃ q, q = 1 - x / 65536 := ⟨_, rfl⟩
        have HDQ : Hid (a + 65536 * q = d + c + b ∧ d < 65536 ∧ q ≤ 1) := (by omega : a + 65536 * q = d + c + b ∧ d < 65536 ∧ q ≤ 1)
        have HX : Hid (x = a + 65536 - c - b ∧ d = x % 65536 ∧ q = 1 - x / 65536) := ⟨hxx, hd, hq⟩
        clear hxx hd hq hc1
        go_wp2_with (first | (at_builtin; refine app32 rfl _ _ rfl w.heap.size _ _ _ w _ _ hown rfl rfl (by omega) (Nat.le_refl _) hbw ?_; intro v' w2 hown' hbw'))
        obtain ⟨q1, q2, q3⟩ := HDQ.out
        obtain ⟨q4, q5, q6⟩ := HX.out
        have f1 : ((a : Int) + 65536 - (c : Int)) % 65536 = (d : Int) := by omega
        have f2 : 1 - ((a : Int) + 65536 - (c : Int)) / 65536 = (q : Int) := by omega
        rw [f1] at hown'
        rw [f2]
        refine ⟨HS.out d q v' w2 q1 q2 q3 hown' hbw', ?_⟩
        simp only [RowKit.intOf]
        omega
    · have k1 : ¬ (i : Int) < (l.length : Int) := by omega
      have HF : Hid (val done = val l - val m) := by
        show val done = val l - val m
        have h1 := HV.out
        rw [List.drop_of_length_le (by omega), List.drop_of_length_le (by omega)] at h1
        simp only [val, Nat.mul_zero, Nat.add_zero] at h1
        have h2 := val_lt done HLT.out
        rw [HI.out] at h2
        rcases Nat.eq_zero_or_pos c with h3 | h3
        · rw [h3, Nat.mul_zero] at h1
          omega
        · have h4 : c = 1 := by omega
          rw [h4, Nat.mul_one] at h1
          omega
      have ct := cut_any done u5 (by omega) HLT.out wr (row_owns hown)
      go_wp2_with (first | (go_at_call 117; refine ct.mono ?_; rintro e w1 ⟨v', rfl, hv', rfl⟩))
      go_ret
      exact ⟨v', rfl, by rw [← HF.out]; exact hv', hbw⟩
theorem sub_00 (oa ob : Option Addr) (c1 c2 : Nat) (w : World) : Calls Tryz.prog 68 #[.slice oa 0 c1, .slice ob 0 c2] w fun e w' => ∃ v, e = .returned v ∧ NatIs w' v 0 ∧ Below w.heap.size w w' := by
  have ct := cut_any [] (.slice none 0 0) (by simp) (by simp) w (.inl ⟨⟨none, 0, rfl, by omega⟩, rfl⟩)
  go_enter Tryz.func68, Tryz.ntmps68
  go_wp2
  refine wp_loop_once ?_
  go_wp2_with (first | (go_at_call 117; refine ct.mono ?_; rintro e w1 ⟨v', rfl, hv', rfl⟩))
  go_ret
  exact ⟨v', rfl, hv', Below.refl _ _⟩
/-- **Sub.** -/
theorem sub_any (u v : Value) (x y : Nat) (w : World) (hx : NatIs w u x) (hy : NatIs w v y) (bx : x < pw 1000) (hxy : y ≤ x) :
    Calls Tryz.prog 68 #[u, v] w fun e w' => ∃ r, e = .returned r ∧ NatIs w' r (x - y) ∧ Below w.heap.size w w' := by
  obtain ⟨l, hl1, hl2, rfl⟩ := hx
  obtain ⟨m, hm1, hm2, rfl⟩ := hy
  have l1 := len_le hl2 bx
  have l2 : m.length ≤ l.length := by
    rcases Nat.lt_or_ge l.length m.length with h | h
    · have := len_lt hl2 hm2 h
      omega
    · exact h
  rcases hl1 with ⟨⟨oa, c1, rfl, _⟩, hle⟩ | ⟨b1, o1, c1, rfl, _, hb1, hc1⟩
  · subst hle
    have hme : m = [] := List.eq_nil_of_length_eq_zero (by simpa using l2)
    subst hme
    obtain ⟨ob, c2, rfl⟩ := hm1.slice
    exact sub_00 oa ob c1 c2 w
  · rcases hm1 with ⟨⟨ob, c2, rfl, _⟩, hme⟩ | ⟨b2, o2, c2, rfl, _, hb2, hc2⟩
    · exact sub_10 l m b1 o1 c1 0 0 c2 ob hl2.1 hm2.1 l1 l2 hxy w hb1 hc1 (by rw [hme]; rfl)
    · exact sub_11 l m b1 o1 c1 b2 o2 c2 none hl2.1 hm2.1 l1 l2 hxy w hb1 hc1 hb2 hc2
end Go.Proofs.YtellndmbllmjgaaGreatDoor
