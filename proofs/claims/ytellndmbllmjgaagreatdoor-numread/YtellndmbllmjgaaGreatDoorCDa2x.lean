/- The walks of scale, times, natOf, shifted. -/
import Derived.Test.YtellndmbllmjgaaGreatDoorCNu2x
import Derived.Test.YtellndmbllmjgaaGreatDoorCRtx
import Derived.RowKit
import Derived.Laws.BitsAllLaws
import Derived.Test.YtellndmbllmjgaaGreatDoorCWk2x
import Derived.Test.YtellndmbllmjgaaGreatDoorCBn10x
set_option linter.unusedVariables false
namespace Go.Proofs.YtellndmbllmjgaaGreatDoor
open Go.RowKit Go.Shelf Go.Sort Fs Fl

theorem val32_append : ∀ (l m : List Nat), val32 (l ++ m) = val32 l + 4294967296 ^ l.length * val32 m
  | [], m => by simp [val32]
  | d :: l, m => by
    rw [List.cons_append, val32, val32_append l m, val32, List.length_cons, Nat.pow_succ, Nat.mul_add, Nat.mul_comm (4294967296 ^ l.length) 4294967296, Nat.mul_assoc]
    omega
theorem val32_lt : ∀ (l : List Nat), W32 l → val32 l < 4294967296 ^ l.length
  | [], _ => by simp [val32]
  | d :: l, h => by
    have h1 := h d (by simp)
    have h2 := val32_lt l (fun x hx => h x (by simp [hx]))
    rw [val32, List.length_cons, Nat.pow_succ]
    omega
theorem val32_take (L : List Nat) (j : Nat) (h : j < L.length) : val32 (L.take (j + 1)) = val32 (L.take j) + 4294967296 ^ j * L[j]?.getD 0 := by
  rw [List.take_succ_eq_append_getElem h, val32_append, List.length_take, Nat.min_eq_left (Nat.le_of_lt h), List.getElem?_eq_getElem h]
  simp [val32]
theorem w32_set {L : List Nat} {j d : Nat} (h : W32 L) (hd : d < 4294967296) : W32 (L.set j d) := by
  intro x hx
  rcases List.mem_or_eq_of_mem_set hx with h1 | h1
  · exact h x h1
  · rw [h1]; exact hd
theorem w32_get {L : List Nat} (h : W32 L) (j : Nat) : L[j]?.getD 0 < 4294967296 := by
  cases hj : L[j]? with
  | none => simp
  | some x => exact h x (List.mem_of_getElem? hj)
/-- scale's round: the words below j are done, those from j on as they were. -/
structure ScS (L M : List Nat) (f more j carry : Nat) : Prop where
  len : M.length = L.length
  low : val32 (M.take j) + 4294967296 ^ j * carry = f * val32 (L.take j) + more
  high : M.drop j = L.drop j
  carry : carry < 4294967296
  w32 : W32 M
theorem scale_step {L M : List Nat} {f more j carry x : Nat} (h : ScS L M f more j carry) (hj : j < L.length) (hf : f < 4294967296) (hx : x = carry + M[j]?.getD 0 * f) : ScS L (M.set j (x % 4294967296)) f more (j + 1) (x / 4294967296) := by
  have hjM : j < M.length := by rw [h.len]; exact hj
  have he : M[j]?.getD 0 = L[j]?.getD 0 := by
    have h1 := congrArg (·[0]?) h.high
    simp only [List.getElem?_drop, Nat.add_zero] at h1
    rw [h1]
  have hm := w32_get h.w32 j
  have hc := h.carry
  have hxb : x < 4294967296 * 4294967296 := by
    have : M[j]?.getD 0 * f ≤ 4294967295 * 4294967295 := Nat.mul_le_mul (by omega) (by omega)
    omega
  refine ⟨by rw [List.length_set]; exact h.len, ?_, ?_, ?_, w32_set h.w32 (Nat.mod_lt _ (by decide))⟩
  · rw [val32_take _ _ (by rw [List.length_set]; exact hjM), List.take_set_of_le (Nat.le_refl j), List.getElem?_set_self hjM, val32_take L j hj, ← he]
    simp only [Option.getD_some]
    have hl := h.low
    generalize val32 (M.take j) = A at *
    generalize val32 (L.take j) = B at *
    generalize M[j]?.getD 0 = m at *
    have h1 := Nat.div_add_mod x 4294967296
    generalize x / 4294967296 = q at *
    generalize x % 4294967296 = r at *
    rw [Nat.pow_succ]
    generalize 4294967296 ^ j = p at *
    have e1 : p * r + p * 4294967296 * q = p * x := by rw [← h1, Nat.mul_add, Nat.mul_assoc]; omega
    have e2 : p * x = p * carry + p * (m * f) := by rw [hx, Nat.mul_add]
    have e3 : f * (B + p * m) = f * B + p * (m * f) := by grind
    rw [e3]
    omega
  · rw [List.drop_set_of_lt (Nat.lt_succ_self j)]
    have h1 := congrArg (List.drop 1) h.high
    simpa [List.drop_drop] using h1
  · exact Nat.div_lt_of_lt_mul (by omega)
inductive ScR (base g cap n : Nat) (w : World) (L : List Nat) (f more : Nat) : Value → Value → World → Prop
  | mk (M : List Nat) (j carry : Nat) (W : World) (hj : j ≤ n) (hS : ScS L M f more j carry) (hO : Own base W (.slice (some ⟨g, 0, none⟩) M.length cap) M) (hb : Below base w W) : ScR base g cap n w L f more (.int .u64 (carry : Int)) (.int .i64 (j : Int)) W
set_option maxRecDepth 100000 in
set_option maxHeartbeats 1000000 in
theorem scale_any (base : Nat) (v : Value) (L : List Nat) (hl : L.length ≤ 100000) (hL : W32 L) (f more : Nat) (hf : f < 4294967296) (hm : more < 4294967296) (w : World) (hv : Own base w v L) :
    Calls Tryz.prog 143 #[v, .int .u32 (f : Int), .int .u32 (more : Int)] w fun e w' => ∃ (M : List Nat) (over : Nat), e = .returned (.int .u32 (over : Int)) ∧ M.length = L.length ∧ W32 M ∧ over < 4294967296 ∧ val32 M + 4294967296 ^ L.length * over = f * val32 L + more ∧ Own base w' v M ∧ Below base w w' := by
  rcases hv.forms with ⟨rfl, rfl⟩ | ⟨g, cap, rfl, hg0, hg1, hlc⟩
  · have HV : Hid (Own base w (.slice none 0 0) []) := hv
    clear hv
    go_enter Tryz.func143, Tryz.ntmps143
    go_wp2
    go_loopw [7, 14] (fun c i wr => c = .int .u64 (more : Int) ∧ i = .int .i64 0 ∧ wr = w) (fun _ _ _ => 0)
    case atStart => exact ⟨rfl, rfl, rfl⟩
    case round =>
      obtain ⟨rfl, rfl, rfl⟩ := hrel
      go_wp2
      go_ret
      exact ⟨[], more, rfl, rfl, fun x hx => by simp at hx, hm, by simp [val32], HV.out, Below.refl _ _⟩
  · obtain ⟨n, hn⟩ : ∃ n, L.length = n := ⟨_, rfl⟩
    rw [hn] at hl hlc
    have HV : Hid (Own base w (.slice (some ⟨g, 0, none⟩) L.length cap) L) := hv
    have HN : Hid (L.length = n) := hn
    have HW : Hid (W32 L) := hL
    rw [hn]
    clear hv hn hL
    go_enter Tryz.func143, Tryz.ntmps143
    go_wp2
    go_loopw [7, 14] (fun c i wr => ScR base g cap n w L f more c i wr) (fun _ i _ => n - (RowKit.intOf i).toNat)
    case atStart => exact .mk L 0 more _ (Nat.zero_le _) ⟨rfl, by simp [val32], rfl, hm, HW.out⟩ HV.out (Below.refl _ _)
    case round =>
      obtain ⟨M, j, carry, W, hj, hS, hO, hbw⟩ := hrel
      have HS : Hid (ScS L M f more j carry) := hS
      have HO : Hid (Own base wr (.slice (some ⟨g, 0, none⟩) M.length cap) M) := hO
      have hcb := hS.carry
      rcases Nat.lt_or_ge j n with hlt | hge
      · have hjM : j < M.length := by rw [hS.len, HN.out]; exact hlt
        have hcell := hO.cell j hjM
        have hfz := hO.frozen j
        have hmb := w32_get hS.w32 j
        have HST := (show Hid _ from fun (x : Nat) => scale_step (x := x) hS (by rw [HN.out]; exact hlt) hf)
        generalize M[j]?.getD 0 = m at *
        have k1 : (j : Int) < (n : Int) := by omega
        clear hS hO hjM
        have hxm : m * f ≤ 18446744065119617025 := Nat.le_trans (Nat.mul_le_mul (show m ≤ 4294967295 by omega) (show f ≤ 4294967295 by omega)) (by decide)
        have hw1 : IntKind.u64.wrap ((m : Int) * (f : Int)) = ((m * f : Nat) : Int) := by
          rw [IntKind.wrap_u64, ← Int.natCast_mul]
          omega
        obtain ⟨y, hy⟩ : ∃ y, y = m * f := ⟨_, rfl⟩
        rw [← hy] at hw1 hxm
        rw [← hy] at HST
        have hw2 : IntKind.u64.wrap ((carry : Int) + (y : Int)) = ((carry + y : Nat) : Int) := by
          rw [IntKind.wrap_u64]
          omega
        obtain ⟨x, hx⟩ : ∃ x, x = carry + y := ⟨_, rfl⟩
        rw [← hx] at hw2
        have HX : Hid (x = carry + y) := hx
        have hxb : x < 18446744073709551616 := by omega
        clear hy hx hxm
        go_wp2
        have hst := HST.out x HX.out
        have hset := HO.out.set j (x % 4294967296)
        have e1 : (x : Int) / 4294967296 = ((x / 4294967296 : Nat) : Int) := rfl
        have e2 : (x : Int) % 4294967296 = ((x % 4294967296 : Nat) : Int) := rfl
        have e3 : (j : Int) + 1 = ((j + 1 : Nat) : Int) := rfl
        rw [e1, e2, e3]
        refine ⟨.mk _ (j + 1) _ _ hlt hst hset (hbw.setCell hg0 _), ?_⟩
        simp only [RowKit.intOf, Int.toNat_natCast]
        omega
      · have hjn : j = n := by omega
        subst hjn
        clear hS hO
        go_wp2
        go_ret
        have hS := HS.out
        have hlow := hS.low
        have hlen := HN.out
        rw [List.take_of_length_le (by rw [hS.len]; omega), List.take_of_length_le (by omega)] at hlow
        have hO := HO.out
        rw [hS.len, hlen] at hO
        exact ⟨M, carry, rfl, by rw [hS.len, hlen], hS.w32, hcb, hlow, hO, hbw⟩
section
variable {ops : Array Oper} {rest : List Oper} {o : Oper} {a : Act} {Q : Exit → Act → World → Prop}
/-- append of one word, to a row of the call's own. -/
theorem appP (hgd : o.guard = none) (s x : Operand) (ho : o.op = .call { callee := .builtin .append, args := #[s, x], argTypes := #[117, 117] })
    (base n : Nat) (v : Value) (xs : List Value) (w0 w : World) (z : Int) (hown : w.ownsRow base 108 1 v n xs) (hs : a.eval s = v) (hx : a.eval x = .slice (some ⟨w.heap.size, 0, none⟩) 1 1)
    (hn : n + 1 ≤ 1000000) (hb : base ≤ w0.heap.size) (hbw : Below base w0 w)
    (h : ∀ v' w', w'.ownsRow base 108 1 v' (n + 1) (xs ++ [.int .u32 z]) → Below base w0 w' → wpList Tryz.prog ops Q rest (a.put o.dst v') w') :
    wpList Tryz.prog ops Q (o :: rest) a (w.alloc (.cells #[.int .u32 z] 108)) := by
  obtain ⟨i0, hi, hz0, hz1, hz2⟩ := info_parts info108
  have hsz := hbw.size
  have hb1 := hbw.alloc (Nat.le_trans hb hbw.size) (Obj.cells #[.int .u32 z] 108)
  have hown1 := hown.alloc (Obj.cells #[.int .u32 z] 108)
  refine wpList_append_own _ hgd s x 117 ho base 108 i0 (.int .u32 0) 1 4 Tryz.underlying117 hi hz0 hz1 hz2 rfl (by decide) v n xs hs hown1 ⟨w.heap.size, 0, none⟩ 1 1 [.int .u32 z] hx rfl (cells_new w [.int .u32 z] 108) (one_ints .u32 [z]) (max_small hn) (by omega) (by simp; omega) ?_
  intro v' w' hown' hgrow _
  exact h v' w' hown' (hb1.grown hgrow (by simp; omega) (fun j e => (hown1.lt j e).1))
end
/-- v holds the number x. -/
def NatP (base : Nat) (w : World) (v : Value) (x : Nat) : Prop := ∃ L, Own base w v L ∧ W32 L ∧ Top L ∧ val32 L = x
theorem top_pos {L : List Nat} (h : Top L) (hW : W32 L) (hL : L ≠ []) : 4294967296 ^ (L.length - 1) ≤ val32 L := by
  rcases List.eq_nil_or_concat L with h1 | ⟨M, z, h1⟩
  · exact absurd h1 hL
  · subst h1
    have hz : z ≠ 0 := h z (by simp)
    rw [List.concat_eq_append, val32_append, List.length_append, List.length_singleton, Nat.add_sub_cancel]
    have : 4294967296 ^ M.length * 1 ≤ 4294967296 ^ M.length * val32 [z] := Nat.mul_le_mul_left _ (by simp [val32]; omega)
    omega
theorem top_len {L : List Nat} (h : Top L) (hW : W32 L) {B : Nat} (hB : val32 L < 4294967296 ^ B) : L.length ≤ B := by
  rcases Nat.lt_or_ge B L.length with h1 | h1
  · exfalso
    have h2 := top_pos h hW (fun e => by rw [e] at h1; simp at h1)
    have h3 : 4294967296 ^ B ≤ 4294967296 ^ (L.length - 1) := Nat.pow_le_pow_right (by omega) (by omega)
    omega
  · exact h1
set_option maxRecDepth 100000 in
set_option maxHeartbeats 1000000 in
theorem times_any (base : Nat) (v : Value) (x : Nat) (B : Nat) (hB : B ≤ 1000) (hx : x < 4294967296 ^ B) (f more : Nat) (hf0 : 0 < f) (hf : f < 4294967296) (hm : more < 4294967296) (w : World) (hv : NatP base w v x) (hbs : base ≤ w.heap.size) :
    Calls Tryz.prog 94 #[v, .int .u32 (f : Int), .int .u32 (more : Int)] w fun e w' => ∃ v', e = .returned v' ∧ NatP base w' v' (f * x + more) ∧ Below base w w' := by
  obtain ⟨L, hO, hW, hT, rfl⟩ := hv
  have hlen := top_len hT hW hx
  have cs := scale_any base v L (by omega) hW f more hf hm w hO
  have HT : Hid (Top L ∧ W32 L) := ⟨hT, hW⟩
  clear hO hW hT hx
  go_enter Tryz.func94, Tryz.ntmps94
  go_wp2_with (first | (go_at_call 143; fail))
  refine cs.mono ?_
  rintro e w1 ⟨M, over, rfl, hMl, hMW, hov, hval, hO1, hb1⟩
  have HV : Hid (val32 M + 4294967296 ^ L.length * over = f * val32 L + more) := hval
  clear hval cs
  have hbig : Hid (over = 0 → Top M) := by
    show over = 0 → Top M
    intro h0
    subst h0
    have h1 := HV.out
    rw [Nat.mul_zero, Nat.add_zero] at h1
    intro z hz
    rcases List.eq_nil_or_concat M with h2 | ⟨M', y, h2⟩
    · rw [h2] at hz; simp at hz
    · have hy : y = z := by rw [h2] at hz; simpa using hz
      subst hy
      have hL0 : L ≠ [] := by
        intro h3
        rw [h3, h2] at hMl
        simp at hMl
      have h3 := top_pos HT.out.1 HT.out.2 hL0
      have h4 : val32 L ≤ f * val32 L := Nat.le_mul_of_pos_left _ hf0
      intro h5
      subst h5
      have h6 : W32 M' := fun x hx => hMW x (by rw [h2]; simp [hx])
      have h7 := val32_lt M' h6
      rw [h2, List.concat_eq_append, val32_append] at h1
      have h8 : M'.length = L.length - 1 := by rw [← hMl, h2]; simp
      rw [h8] at h7
      simp only [val32] at h1
      omega
  have hO1' : w1.ownsRow base 108 1 v M.length (M.map dv) := hO1
  have HO : Hid (Own base w1 v M) := hO1
  clear hO1
  by_cases ho : over = 0
  · subst ho
    have hT := hbig.out rfl
    have hv := HV.out
    rw [Nat.mul_zero, Nat.add_zero] at hv
    have HR : Hid (NatP base w1 v (f * val32 L + more)) := ⟨M, HO.out, hMW, hT, hv⟩
    clear hov hT hv hbig hO1'
    go_wp2
    go_ret
    exact ⟨_, rfl, HR.out, hb1⟩
  · have hoo : ((over : Int) != 0) = true := by rw [bne_iff_ne]; omega
    go_wp2_with (first | (at_builtin; refine appP rfl _ _ rfl base _ _ _ w _ _ hO1' rfl rfl (by omega) hbs hb1 ?_; intro v' w2 hO2 hb2))
    go_ret
    refine ⟨_, rfl, ⟨M ++ [over], ?_, ?_, ?_, ?_⟩, hb2⟩
    · unfold Own
      rw [List.map_append, List.length_append]
      exact hO2
    · intro x hx
      rcases List.mem_append.1 hx with h1 | h1
      · exact hMW x h1
      · simp at h1; omega
    · intro z hz
      simp at hz
      omega
    · rw [val32_append, hMl, ← HV.out]
      simp [val32]
end Go.Proofs.YtellndmbllmjgaaGreatDoor
/- The highest 64 bits of a number of many words. -/
set_option linter.unusedVariables false
namespace Go.Proofs.YtellndmbllmjgaaGreatDoor
open Go.RowKit Go.Shelf Go.Sort Fs Fl

theorem top_ar (r P a b c : Nat) : r + P * a + P * 4294967296 * b + P * 4294967296 * 4294967296 * c = r + P * (a + 4294967296 * (b + 4294967296 * c)) := by grind
/-- The value of a number by its three highest words and the rest. -/
theorem val32_top (L : List Nat) (n : Nat) (hn : L.length = n + 3) : val32 L = val32 (L.take n) + 4294967296 ^ n * (L[n]?.getD 0 + 4294967296 * (L[n + 1]?.getD 0 + 4294967296 * L[n + 2]?.getD 0)) := by
  have h1 := val32_take L n (by omega)
  have h2 := val32_take L (n + 1) (by omega)
  have h3 := val32_take L (n + 2) (by omega)
  rw [show n + 2 + 1 = L.length by omega, List.take_length] at h3
  rw [h3, h2, h1, show 4294967296 ^ (n + 2) = 4294967296 ^ n * 4294967296 * 4294967296 by rw [Nat.pow_succ, Nat.pow_succ], Nat.pow_succ]
  exact top_ar _ _ _ _ _
theorem top_split {h m l3 Y Z B rest N t r : Nat} (hY : 0 < Y) (hYZ : Y * Z = 4294967296) (h1 : 2147483648 ≤ h * Z) (h2 : h * Z < 4294967296) (hm : m < 4294967296) (hl : l3 < 4294967296) (hr : rest < B)
    (hN : N = rest + B * (l3 + 4294967296 * (m + 4294967296 * h))) (ht : t = (h * 4294967296 + m) * Z + l3 / Y) (hrr : r = l3 % Y * B + rest) :
    N = t * (B * Y) + r ∧ r < B * Y ∧ 9223372036854775808 ≤ t ∧ t < 18446744073709551616 ∧ (r = 0 ↔ l3 % Y = 0 ∧ rest = 0) := by
  have d1 := Nat.div_add_mod l3 Y
  have d2 := Nat.mod_lt l3 hY
  obtain ⟨a, ha⟩ : ∃ a, a = l3 / Y := ⟨_, rfl⟩
  obtain ⟨b, hb⟩ : ∃ b, b = l3 % Y := ⟨_, rfl⟩
  rw [← ha] at ht d1
  rw [← hb] at hrr d1 d2 ⊢
  have haZ : a < Z := by
    rcases Nat.lt_or_ge a Z with h | h
    · exact h
    · have := Nat.mul_le_mul_left Y h
      omega
  have hB : 0 < B := by omega
  have e3 : h * 4294967296 * Z = h * Z * 4294967296 := by rw [Nat.mul_right_comm]
  have e4 : (h * 4294967296 + m) * Z = h * Z * 4294967296 + m * Z := by rw [Nat.add_mul, e3]
  have hmZ : m * Z + a < 4294967296 * Z := by
    have := Nat.mul_le_mul_right Z (show m ≤ 4294967295 by omega)
    rw [show (4294967296 : Nat) * Z = 4294967295 * Z + Z by omega]
    omega
  refine ⟨?_, ?_, ?_, ?_, ?_⟩
  · rw [hN, ht, hrr, ← d1]
    have e5 : (4294967296 : Nat) * (m + 4294967296 * h) = (h * 4294967296 + m) * Z * Y := by
      rw [← hYZ]; grind
    rw [e5]
    grind
  · rw [hrr]
    have := Nat.mul_le_mul_right B (show b + 1 ≤ Y by omega)
    rw [Nat.add_mul, Nat.mul_comm Y B] at this
    omega
  · rw [ht, e4]; omega
  · have hZ : Z * (h + 1) ≤ 4294967296 := by
      have hd : (h * Z) < Y * Z := by omega
      have hh : h < Y := Nat.lt_of_mul_lt_mul_right hd
      have := Nat.mul_le_mul_left Z (show h + 1 ≤ Y by omega)
      rw [Nat.mul_comm Z Y] at this
      omega
    rw [ht, e4]
    have e6 : Z * (h + 1) * 4294967296 = h * Z * 4294967296 + 4294967296 * Z := by grind
    have e7 := Nat.mul_le_mul_right 4294967296 hZ
    rw [e6] at e7
    omega
  · rw [hrr]
    constructor
    · intro h
      have h3 : b * B = 0 := by omega
      rcases Nat.mul_eq_zero.1 h3 with h4 | h4
      · exact ⟨h4, by omega⟩
      · omega
    · rintro ⟨rfl, rfl⟩
      omega
end Go.Proofs.YtellndmbllmjgaaGreatDoor
/- The bits that the walk of float sets. -/
set_option linter.unusedVariables false
namespace Go.Proofs.YtellndmbllmjgaaGreatDoor
open Go.RowKit Go.Shelf Go.Sort Fs Fl
theorem shlU (m k : Nat) (hk : k ≤ 64) (h : m * 2 ^ k < 18446744073709551616) : IntKind.u64.wrap ((m : Int) * 2 ^ min k 64) = ((m * 2 ^ k : Nat) : Int) := by
  rw [Nat.min_eq_left hk, IntKind.wrap_u64]
  have e : (m : Int) * 2 ^ k = ((m * 2 ^ k : Nat) : Int) := by push_cast; rfl
  rw [e]
  omega
theorem shrU (m k : Nat) (hk : k ≤ 64) : (m : Int) / 2 ^ min k 64 = ((m / 2 ^ k : Nat) : Int) := by
  rw [Nat.min_eq_left hk]
  push_cast
  rfl
theorem shl32 (m k : Nat) (hk : k ≤ 32) : IntKind.u32.wrap ((m : Int) * 2 ^ min k 32) = ((m * 2 ^ k % 4294967296 : Nat) : Int) := by
  rw [Nat.min_eq_left hk, IntKind.wrap_u32]
  have e : (m : Int) * 2 ^ k = ((m * 2 ^ k : Nat) : Int) := by push_cast; rfl
  rw [e]
  omega
theorem orU (x y k : Nat) (hx : x % 2 ^ k = 0) (hy : y < 2 ^ k) (hx2 : x < 18446744073709551616) (hy2 : y < 18446744073709551616) : bits .or .u64 (x : Int) (y : Int) = ((x + y : Nat) : Int) := by
  obtain ⟨q, hq⟩ : ∃ q, x = 2 ^ k * q := ⟨x / 2 ^ k, by have := Nat.div_add_mod x (2 ^ k); omega⟩
  have e : x ||| y = x + y := by
    rw [hq]
    exact (Nat.two_pow_add_eq_or_of_lt hy q).symm
  refine (bits_or_u64_nat x y (by omega) (by omega)).trans ?_
  exact congrArg Int.ofNat e
end Go.Proofs.YtellndmbllmjgaaGreatDoor
/- The walks of natOf, timesFives, shifted. -/
set_option linter.unusedVariables false
namespace Go.Proofs.YtellndmbllmjgaaGreatDoor
open Go.RowKit Go.Shelf Go.Sort Fs Fl

theorem NatP.slice {base : Nat} {w : World} {v : Value} {x : Nat} (h : NatP base w v x) : ∃ a n c, v = .slice a n c := by
  obtain ⟨L, h1, h2⟩ := h
  rcases h1.forms with ⟨rfl, _⟩ | ⟨g, cap, rfl, _⟩
  · exact ⟨_, _, _, rfl⟩
  · exact ⟨_, _, _, rfl⟩
end Go.Proofs.YtellndmbllmjgaaGreatDoor
/- isZero. -/
set_option linter.unusedVariables false
namespace Go.Proofs.YtellndmbllmjgaaGreatDoor
open Go.RowKit Go.Shelf Go.Sort Fs Fl

theorem val32_zero_iff : ∀ (L : List Nat), val32 L = 0 ↔ ∀ d ∈ L, d = 0
  | [] => by simp [val32]
  | d :: l => by
    have := val32_zero_iff l
    rw [val32]
    constructor
    · intro h x hx
      rcases List.mem_cons.1 hx with rfl | hx
      · omega
      · exact this.1 (by omega) x hx
    · intro h
      have h1 := h d (by simp)
      have h2 := this.2 (fun x hx => h x (by simp [hx]))
      omega
theorem isz_one (z : Nat) (w : World) : Calls Tryz.prog 190 #[.int .u32 (z : Int)] w fun e w' => e = .returned (.bool (decide (z ≠ 0))) ∧ w' = w := by
  by_cases h : z = 0
  · subst h
    go_enter Tryz.func190, Tryz.ntmps190
    go_wp2
    go_ret
    exact ⟨rfl, rfl⟩
  · have hz : ((z : Int) == 0) = false := by rw [beq_eq_false_iff_ne]; omega
    have hz' : ((z : Int) != 0) = true := by rw [bne, hz]; rfl
    have hd : decide (z ≠ 0) = true := by simp [h]
    rw [hd]
    go_enter Tryz.func190, Tryz.ntmps190
    go_wp2
    go_ret
    exact ⟨rfl, rfl⟩
set_option maxRecDepth 100000 in
set_option maxHeartbeats 1000000 in
theorem indexF_any (base : Nat) (v : Value) (L : List Nat) (hl : L.length ≤ 100000) (w : World) (hv : Own base w v L) :
    Calls Tryz.prog 236 #[v, .func (.func 190) #[] #[]] w fun e w' => ∃ k : Int, e = .returned (.int .i64 k) ∧ (0 ≤ k ↔ val32 L ≠ 0) ∧ w' = w := by
  rcases hv.forms with ⟨rfl, rfl⟩ | ⟨g, cap, rfl, hg0, hg1, hlc⟩
  · clear hv
    go_enter Tryz.func236, Tryz.ntmps236
    go_wp2
    go_loopw [8] (fun i wr => i = .int .i64 0 ∧ wr = w) (fun _ _ => 0)
    case atStart => exact ⟨rfl, rfl⟩
    case round =>
      obtain ⟨rfl, rfl⟩ := hrel
      go_wp2
      go_ret
      exact ⟨-1, rfl, by simp [val32], rfl⟩
  · obtain ⟨n, hn⟩ : ∃ n, L.length = n := ⟨_, rfl⟩
    rw [hn] at hl hlc
    have HV : Hid (Own base w (.slice (some ⟨g, 0, none⟩) L.length cap) L) := hv
    have HN : Hid (L.length = n) := hn
    rw [hn]
    clear hv hn
    go_enter Tryz.func236, Tryz.ntmps236
    go_wp2
    go_loopw [8] (fun i wr => ∃ j : Nat, i = .int .i64 (j : Int) ∧ j ≤ n ∧ (∀ d ∈ L.take j, d = 0) ∧ wr = w) (fun i _ => n - (RowKit.intOf i).toNat)
    case atStart => exact ⟨0, rfl, Nat.zero_le _, by simp, rfl⟩
    case round =>
      obtain ⟨j, rfl, hj, hz, rfl⟩ := hrel
      have HZ : Hid (∀ d ∈ L.take j, d = 0) := hz
      clear hz
      rcases Nat.lt_or_ge j n with hlt | hge
      · have hjL : j < L.length := by rw [HN.out]; exact hlt
        have hcell := HV.out.cell j hjL
        have HE : Hid (L.take (j + 1) = L.take j ++ [L[j]?.getD 0]) := by
          show _ = _
          rw [List.take_succ_eq_append_getElem hjL, List.getElem?_eq_getElem hjL]
          rfl
        have HM : Hid (L[j]?.getD 0 ∈ L) := by
          show _ ∈ _
          rw [List.getElem?_eq_getElem hjL]
          exact List.getElem_mem _
        generalize L[j]?.getD 0 = z at *
        have k1 : (j : Int) < (n : Int) := by omega
        clear hjL
        by_cases h0 : z = 0
        · subst h0
          have ci : ∀ w, Calls Tryz.prog 190 #[.int .u32 0] w fun e w' => e = .returned (.bool false) ∧ w' = w := fun w => isz_one 0 w
          go_wp2_with (go_at_call 190; refine (ci _).mono ?_; rintro e w1 ⟨rfl, rfl⟩)
          refine ⟨⟨j + 1, rfl, hlt, ?_, trivial⟩, ?_⟩
          · rw [HE.out]
            intro d hd
            rcases List.mem_append.1 hd with h | h
            · exact HZ.out d h
            · simpa using h
          · simp only [RowKit.intOf]
            omega
        · have hd : decide (z ≠ 0) = true := by simp [h0]
          have ci := isz_one z
          rw [hd] at ci
          go_wp2_with (go_at_call 190; refine (ci _).mono ?_; rintro e w1 ⟨rfl, rfl⟩)
          go_ret
          refine ⟨(j : Int), rfl, ⟨fun _ h => h0 ((val32_zero_iff L).1 h z HM.out), fun _ => by omega⟩, rfl⟩
      · have hjn : j = n := by omega
        subst hjn
        go_wp2
        go_ret
        refine ⟨-1, rfl, ⟨fun h => by omega, fun h => ?_⟩, rfl⟩
        exfalso
        apply h
        rw [val32_zero_iff]
        have h2 := HZ.out
        rw [List.take_of_length_le (by rw [HN.out]; omega)] at h2
        exact h2
set_option maxRecDepth 100000 in
set_option maxHeartbeats 1000000 in
theorem isZero_any (base : Nat) (v : Value) (L : List Nat) (hl : L.length ≤ 100000) (w : World) (hv : Own base w v L) :
    Calls Tryz.prog 145 #[v] w fun e w' => e = .returned (.bool (decide (val32 L = 0))) ∧ w' = w := by
  obtain ⟨a, n, c, hvs⟩ : ∃ a n c, v = .slice a n c := by
    rcases hv.forms with ⟨rfl, rfl⟩ | ⟨g, cap, rfl, _, _, _⟩
    · exact ⟨_, _, _, rfl⟩
    · exact ⟨_, _, _, rfl⟩
  have ci := indexF_any base v L hl w hv
  subst hvs
  have CI : Hid (Calls Tryz.prog 236 #[.slice a n c, .func (.func 190) #[] #[]] w fun e w' => ∃ k : Int, e = .returned (.int .i64 k) ∧ (0 ≤ k ↔ val32 L ≠ 0) ∧ w' = w) := ci
  clear ci hv
  have cc : Calls Tryz.prog 189 #[.slice a n c, .func (.func 190) #[] #[]] w fun e w' => e = .returned (.bool (decide (val32 L ≠ 0))) ∧ w' = w := by
    go_enter Tryz.func189, Tryz.ntmps189
    go_wp2_with (first | (go_at_call 236; fail))
    have ci := CI.out
    go_fit ci
    rintro e w1 ⟨k, rfl, hk, rfl⟩
    obtain ⟨b, hb⟩ : ∃ b, decide (0 ≤ k) = b := ⟨_, rfl⟩
    have HK : Hid (b = decide (val32 L ≠ 0)) := hb.symm.trans (decide_eq_decide.2 hk)
    clear ci hk
    go_wp2
    go_ret
    exact ⟨congrArg (fun b => Ending.returned (Value.bool b)) HK.out, rfl⟩
  have hb : (!decide (val32 L ≠ 0)) = decide (val32 L = 0) := by simp
  rw [← hb]
  clear hb CI
  generalize decide (val32 L ≠ 0) = b at *
  have hnot : ∀ (x : Bool) (w : World), (Op.unary .not (.bool x)).run Tryz.prog w = .ok (.bool (!x)) w := fun _ _ => rfl
  go_enter Tryz.func145, Tryz.ntmps145
  go_wp2_with (first | (go_at_call 189; refine cc.mono ?_; rintro e w1 ⟨rfl, rfl⟩))
  go_ret
  exact ⟨rfl, rfl⟩
end Go.Proofs.YtellndmbllmjgaaGreatDoor
/- The walk of nat.float. -/
set_option linter.unusedVariables false
namespace Go.Proofs.YtellndmbllmjgaaGreatDoor
open Go.RowKit Go.Shelf Go.Sort Fs Fl
inductive F2 (w : World) (a b : Nat) : Value → Value → World → Prop
  | z : F2 w a b (.int .u64 0) (.int .i64 0) w
  | o : F2 w a b (.int .u64 (a : Int)) (.int .i64 1) w
  | t : F2 w a b (.int .u64 ((a + 4294967296 * b : Nat) : Int)) (.int .i64 2) w
theorem or_first (a : Nat) (h : a < 4294967296) : bits .or .u64 0 (a : Int) = (a : Int) := by
  have := orU 0 a 32 (by decide) h (by omega) (by omega)
  rw [Nat.zero_add] at this
  exact this
theorem or_second (a b : Nat) (h : a < 4294967296) (hb : b < 4294967296) : bits .or .u64 (a : Int) ((b : Int) * 4294967296) = ((a + 4294967296 * b : Nat) : Int) := by
  have h1 := bits_or_u64_nat a (4294967296 * b) (by omega) (by omega)
  have h2 := orU (4294967296 * b) a 32 (Nat.mul_mod_right _ _) h (by omega) (by omega)
  have h3 := bits_or_u64_nat (4294967296 * b) a (by omega) (by omega)
  rw [Nat.or_comm, ← h1] at h3
  rw [h3, Nat.add_comm] at h2
  rw [show (b : Int) * 4294967296 = ((4294967296 * b : Nat) : Int) by omega]
  exact h2
set_option maxRecDepth 100000 in
set_option maxHeartbeats 1000000 in
theorem float_two (base g cap a b : Nat) (ha : a < 4294967296) (hb : b < 4294967296) (w : World) (hv : Own base w (.slice (some ⟨g, 0, none⟩) 2 cap) [a, b]) :
    Calls Tryz.prog 96 #[.slice (some ⟨g, 0, none⟩) 2 cap] w fun e w' => e = .returned (.float .f64 (floatOfInt .f64 ((a + 4294967296 * b : Nat) : Int))) ∧ w' = w := by
  have h0 := hv.cell 0 (by simp)
  have h1 := hv.cell 1 (by simp)
  simp at h0 h1
  have o1 := or_first a ha
  have o2 := or_second a b ha hb
  obtain ⟨T, hT⟩ : ∃ T : Nat, T = a + 4294967296 * b := ⟨_, rfl⟩
  rw [← hT] at o2 ⊢
  have HT : Hid (T = a + 4294967296 * b) := hT
  clear hT hv
  go_enter Tryz.func96, Tryz.ntmps96
  go_wp2
  go_loopw [4, 13] (fun vt vi wr => F2 w a b vt vi wr) (fun _ vi _ => 2 - (intOf vi).toNat)
  case atStart => exact .z
  case round =>
    rcases hrel with _ | _ | _
    · go_wp2
      exact ⟨.o, by simp [intOf]⟩
    · go_wp2
      refine ⟨?_, by simp [intOf]⟩
      rw [HT.out]
      exact .t
    · rw [← HT.out]
      go_wp2
      go_ret
      exact ⟨rfl, rfl⟩
inductive F1 (w : World) (a : Nat) : Value → Value → World → Prop
  | z : F1 w a (.int .u64 0) (.int .i64 0) w
  | o : F1 w a (.int .u64 (a : Int)) (.int .i64 1) w
set_option maxRecDepth 100000 in
set_option maxHeartbeats 1000000 in
theorem float_one (base g cap a : Nat) (ha : a < 4294967296) (w : World) (hv : Own base w (.slice (some ⟨g, 0, none⟩) 1 cap) [a]) :
    Calls Tryz.prog 96 #[.slice (some ⟨g, 0, none⟩) 1 cap] w fun e w' => e = .returned (.float .f64 (floatOfInt .f64 (a : Int))) ∧ w' = w := by
  have h0 := hv.cell 0 (by simp)
  simp at h0
  have o1 := or_first a ha
  clear hv
  go_enter Tryz.func96, Tryz.ntmps96
  go_wp2
  go_loopw [4, 13] (fun vt vi wr => F1 w a vt vi wr) (fun _ vi _ => 1 - (intOf vi).toNat)
  case atStart => exact .z
  case round =>
    rcases hrel with _ | _
    · go_wp2
      exact ⟨.o, by simp [intOf]⟩
    · go_wp2
      go_ret
      exact ⟨rfl, rfl⟩
set_option maxRecDepth 100000 in
set_option maxHeartbeats 1000000 in
theorem float_none (sa : Option Addr) (cap : Nat) (w : World) :
    Calls Tryz.prog 96 #[.slice sa 0 cap] w fun e w' => e = .returned (.float .f64 (floatOfInt .f64 0)) ∧ w' = w := by
  go_enter Tryz.func96, Tryz.ntmps96
  go_wp2
  go_loopw [4, 13] (fun vt vi wr => vt = .int .u64 0 ∧ vi = .int .i64 0 ∧ wr = w) (fun _ vi _ => 0)
  case atStart => exact ⟨rfl, rfl, rfl⟩
  case round =>
    obtain ⟨rfl, rfl, rfl⟩ := hrel
    go_wp2
    go_ret
    exact ⟨rfl, rfl⟩
end Go.Proofs.YtellndmbllmjgaaGreatDoor
/- Ldexp, of a number of 64 bits, upwards. -/
set_option linter.unusedVariables false
namespace Go.Proofs.YtellndmbllmjgaaGreatDoor
open Go.RowKit Go.Shelf Go.Sort Fs Fl Fl2
set_option maxRecDepth 100000 in
set_option maxHeartbeats 400000 in
theorem ldexp_far (r q f : Nat) (e : Int) (hr : r = q * 4503599627370496 + f) (hf : f < 4503599627370496) (hq1 : 0 < q) (hq2 : q < 2047) (he1 : 2046 < e + q) (he2 : e ≤ 100000) (w : World) :
    Calls Tryz.prog 192 #[.float .f64 r, .int .i64 e] w fun ee w' => ee = .returned (.float .f64 9218868437227405312) ∧ w' = w := by
  obtain ⟨cn, ci, cq, o1, o2⟩ := asks r (by omega) (by omega)
  have x1 := Tryz.tobits103 r
  have q1 : (r : Int) / 4503599627370496 = (q : Int) := by omega
  have b3 : bits .and .i64 (q : Int) 2047 = (q : Int) := and_11 q (by omega)
  have c48 := inf_any
  have k1 : ¬ e + ((q : Int) - 1023) < -1075 := by omega
  have k2 : 1023 < e + ((q : Int) - 1023) := by omega
  clear hr
  go_enter Tryz.func192, Tryz.ntmps192
  go_wp2_with (first | (go_at_call 237; refine (cn _).mono ?_; rintro e w' ⟨rfl, rfl⟩) | (go_at_call 25; refine (ci _).mono ?_; rintro e w' ⟨rfl, rfl⟩) | (go_at_call 232; refine (cq _).mono ?_; rintro e w' ⟨rfl, rfl⟩) | (go_at_call 48; refine (c48 _).mono ?_; rintro e w' ⟨rfl, rfl⟩) | go_in)
  go_ret
  exact ⟨rfl, rfl⟩
set_option maxRecDepth 100000 in
theorem top_in (sh q f n : Nat) (hr : 1085 * 4503599627370496 + n = q * 4503599627370496 + f) (hf : f < 4503599627370496) (h : sh + q < 2047) : min ((1085 + sh) * 4503599627370496 + n) 9218868437227405312 = (sh + q) * 4503599627370496 + f := by
  have h1 : (1085 + sh) * 4503599627370496 + n = (sh + q) * 4503599627370496 + f := by
    rw [Nat.add_mul, Nat.add_mul, Nat.add_assoc, Nat.add_assoc, ← hr, ← Nat.add_assoc, ← Nat.add_assoc, Nat.add_comm (sh * 4503599627370496)]
  have h2 : (sh + q) * 4503599627370496 + f ≤ 9218868437227405312 := by omega
  rw [h1]
  exact Nat.min_eq_left h2
set_option maxRecDepth 100000 in
theorem top_out (sh q f n : Nat) (hr : 1085 * 4503599627370496 + n = q * 4503599627370496 + f) (h : 2047 ≤ sh + q) : min ((1085 + sh) * 4503599627370496 + n) 9218868437227405312 = 9218868437227405312 := by
  have h2 : 9218868437227405312 ≤ (1085 + sh) * 4503599627370496 + n := by omega
  exact Nat.min_eq_right h2
set_option maxRecDepth 100000 in
theorem ldexp_top (n sh : Nat) (hn1 : 4503599627370496 ≤ n) (hn2 : n ≤ 9007199254740992) (hs : sh ≤ 100000) (w : World) :
    Calls Tryz.prog 192 #[.float .f64 (1085 * 4503599627370496 + n), .int .i64 (sh : Int)] w fun ee w' => ee = .returned (.float .f64 (min ((1085 + sh) * 4503599627370496 + n) 9218868437227405312)) ∧ w' = w := by
  obtain ⟨q, f, hr, hf, hq1, hq2⟩ : ∃ q f, 1085 * 4503599627370496 + n = q * 4503599627370496 + f ∧ f < 4503599627370496 ∧ 1086 ≤ q ∧ q ≤ 1087 := by
    rcases Nat.lt_or_eq_of_le hn2 with h | h
    · exact ⟨1086, n - 4503599627370496, by omega, by omega, by omega, by omega⟩
    · exact ⟨1087, 0, by omega, by omega, by omega, by omega⟩
  rcases Nat.lt_or_ge (sh + q) 2047 with h | h
  · refine (ldexp_norm _ q f ((sh + q) * 4503599627370496 + f) (sh : Int) hr hf (by omega) (by omega) (by omega) (by omega) (by rw [show ((sh : Int) + (q : Int)).toNat = sh + q by omega]) w).mono ?_
    rintro e w' ⟨rfl, rfl⟩
    refine ⟨?_, rfl⟩
    have e := top_in sh q f n hr hf h
    rw [e]
  · refine (ldexp_far _ q f (sh : Int) hr hf (by omega) (by omega) (by omega) (by omega) w).mono ?_
    rintro e w' ⟨rfl, rfl⟩
    refine ⟨?_, rfl⟩
    have e := top_out sh q f n hr h
    rw [e]
set_option maxRecDepth 100000 in
theorem Ldexp_top (n sh : Nat) (hn1 : 4503599627370496 ≤ n) (hn2 : n ≤ 9007199254740992) (hs : sh ≤ 100000) (w : World) :
    Calls Tryz.prog 146 #[.float .f64 (1085 * 4503599627370496 + n), .int .i64 (sh : Int)] w fun ee w' => ee = .returned (.float .f64 (min ((1085 + sh) * 4503599627370496 + n) 9218868437227405312)) ∧ w' = w := by
  have cf := ldexp_top n sh hn1 hn2 hs
  generalize min ((1085 + sh) * 4503599627370496 + n) 9218868437227405312 = t at *
  generalize 1085 * 4503599627370496 + n = x at *
  generalize (sh : Int) = e at *
  clear hn1 hn2 hs
  go_enter Tryz.func146, Tryz.ntmps146
  go_wp2_with (first | (go_at_call 192; refine (cf _).mono ?_; rintro e w' ⟨rfl, rfl⟩) | go_in)
  go_ret
  exact ⟨rfl, rfl⟩
end Go.Proofs.YtellndmbllmjgaaGreatDoor
