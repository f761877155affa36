/- The walks of scale, times, natOf, shifted. -/
import Derived.Test.YtellndmbllmjgaaGreatDoorCNwTx
import Derived.Test.YtellndmbllmjgaaGreatDoorCFe2x
import Derived.Test.YtellndmbllmjgaaGreatDoorCPt1x
set_option linter.unusedVariables false
namespace Go.Proofs.YtellndmbllmjgaaGreatDoor
open Go.RowKit Go.Shelf Go.Sort Fs Fl

theorem val32_append : ∀ (l m : List Nat), val32 (l ++ m) = val32 l + 4294967296 ^ l.length * val32 m
  | [], m => by simp [val32]
  | d :: l, m => by
    rw [List.cons_append, val32, val32_append l m, val32, List.length_cons, Nat.pow_succ, Nat.mul_add, Nat.mul_comm (4294967296 ^ l.length) 4294967296, Nat.mul_assoc]
    omega
theorem val32_zeros : ∀ k, val32 (List.replicate k 0) = 0
  | 0 => rfl
  | k + 1 => by rw [List.replicate_succ, val32, val32_zeros k]
theorem val32_lt : ∀ (l : List Nat), W32 l → val32 l < 4294967296 ^ l.length
  | [], _ => by simp [val32]
  | d :: l, h => by
    have h1 := h d (by simp)
    have h2 := val32_lt l (fun x hx => h x (by simp [hx]))
    rw [val32, List.length_cons, Nat.pow_succ]
    omega
theorem val32_take (L : List Nat) (j : Nat) (h : j < L.length) : val32 (L.take (j + 1)) = val32 (L.take j) + 4294967296 ^ j * L[j]?.getD 0 := by
  rw [List.take_succ_eq_append_getElem h, val32_append, List.length_take, Nat.min_eq_left (Nat.le_of_lt h), List.getElem?_eq_getElem h]
  simp [val32]
theorem w32_set {L : List Nat} {j d : Nat} (h : W32 L) (hd : d < 4294967296) : W32 (L.set j d) := by
  intro x hx
  rcases List.mem_or_eq_of_mem_set hx with h1 | h1
  · exact h x h1
  · rw [h1]; exact hd
theorem w32_get {L : List Nat} (h : W32 L) (j : Nat) : L[j]?.getD 0 < 4294967296 := by
  cases hj : L[j]? with
  | none => simp
  | some x => exact h x (List.mem_of_getElem? hj)
/-- scale's round: the words below j are done, those from j on as they were. -/
structure ScS (L M : List Nat) (f more j carry : Nat) : Prop where
  len : M.length = L.length
  low : val32 (M.take j) + 4294967296 ^ j * carry = f * val32 (L.take j) + more
  high : M.drop j = L.drop j
  carry : carry < 4294967296
  w32 : W32 M
theorem scale_step {L M : List Nat} {f more j carry x : Nat} (h : ScS L M f more j carry) (hj : j < L.length) (hf : f < 4294967296) (hx : x = carry + M[j]?.getD 0 * f) : ScS L (M.set j (x % 4294967296)) f more (j + 1) (x / 4294967296) := by
  have hjM : j < M.length := by rw [h.len]; exact hj
  have he : M[j]?.getD 0 = L[j]?.getD 0 := by
    have h1 := congrArg (·[0]?) h.high
    simp only [List.getElem?_drop, Nat.add_zero] at h1
    rw [h1]
  have hm := w32_get h.w32 j
  have hc := h.carry
  have hxb : x < 4294967296 * 4294967296 := by
    have : M[j]?.getD 0 * f ≤ 4294967295 * 4294967295 := Nat.mul_le_mul (by omega) (by omega)
    omega
  refine ⟨by rw [List.length_set]; exact h.len, ?_, ?_, ?_, w32_set h.w32 (Nat.mod_lt _ (by decide))⟩
  · rw [val32_take _ _ (by rw [List.length_set]; exact hjM), List.take_set_of_le (Nat.le_refl j), List.getElem?_set_self hjM, val32_take L j hj, ← he]
    simp only [Option.getD_some]
    have hl := h.low
    generalize val32 (M.take j) = A at *
    generalize val32 (L.take j) = B at *
    generalize M[j]?.getD 0 = m at *
    have h1 := Nat.div_add_mod x 4294967296
    generalize x / 4294967296 = q at *
    generalize x % 4294967296 = r at *
    rw [Nat.pow_succ]
    generalize 4294967296 ^ j = p at *
    have e1 : p * r + p * 4294967296 * q = p * x := by rw [← h1, Nat.mul_add, Nat.mul_assoc]; omega
    have e2 : p * x = p * carry + p * (m * f) := by rw [hx, Nat.mul_add]
    have e3 : f * (B + p * m) = f * B + p * (m * f) := by grind
    rw [e3]
    omega
  · rw [List.drop_set_of_lt (Nat.lt_succ_self j)]
    have h1 := congrArg (List.drop 1) h.high
    simpa [List.drop_drop] using h1
  · exact Nat.div_lt_of_lt_mul (by omega)
inductive ScR (base g cap n : Nat) (w : World) (L : List Nat) (f more : Nat) : Value → Value → World → Prop
  | mk (M : List Nat) (j carry : Nat) (W : World) (hj : j ≤ n) (hS : ScS L M f more j carry) (hO : Own base W (.slice (some ⟨g, 0, none⟩) M.length cap) M) (hb : Below base w W) : ScR base g cap n w L f more (.int .u64 (carry : Int)) (.int .i64 (j : Int)) W
set_option maxRecDepth 100000 in
set_option maxHeartbeats 1000000 in
theorem scale_any (base : Nat) (v : Value) (L : List Nat) (hl : L.length ≤ 100000) (hL : W32 L) (f more : Nat) (hf : f < 4294967296) (hm : more < 4294967296) (w : World) (hv : Own base w v L) :
    Calls Tryz.prog 143 #[v, .int .u32 (f : Int), .int .u32 (more : Int)] w fun e w' => ∃ (M : List Nat) (over : Nat), e = .returned (.int .u32 (over : Int)) ∧ M.length = L.length ∧ W32 M ∧ over < 4294967296 ∧ val32 M + 4294967296 ^ L.length * over = f * val32 L + more ∧ Own base w' v M ∧ Below base w w' := by
  rcases hv.forms with ⟨rfl, rfl⟩ | ⟨g, cap, rfl, hg0, hg1, hlc⟩
  · have HV : Hid (Own base w (.slice none 0 0) []) := hv
    clear hv
    go_enter Tryz.func143, Tryz.ntmps143
    go_wp2
    go_loopw [7, 14] (fun c i wr => c = .int .u64 (more : Int) ∧ i = .int .i64 0 ∧ wr = w) (fun _ _ _ => 0)
    case atStart => exact ⟨rfl, rfl, rfl⟩
    case round =>
      obtain ⟨rfl, rfl, rfl⟩ := hrel
      go_wp2
      go_ret
      exact ⟨[], more, rfl, rfl, fun x hx => by simp at hx, hm, by simp [val32], HV.out, Below.refl _ _⟩
  · obtain ⟨n, hn⟩ : ∃ n, L.length = n := ⟨_, rfl⟩
    rw [hn] at hl hlc
    have HV : Hid (Own base w (.slice (some ⟨g, 0, none⟩) L.length cap) L) := hv
    have HN : Hid (L.length = n) := hn
    have HW : Hid (W32 L) := hL
    rw [hn]
    clear hv hn hL
    go_enter Tryz.func143, Tryz.ntmps143
    go_wp2
    go_loopw [7, 14] (fun c i wr => ScR base g cap n w L f more c i wr) (fun _ i _ => n - (RowKit.intOf i).toNat)
    case atStart => exact .mk L 0 more _ (Nat.zero_le _) ⟨rfl, by simp [val32], rfl, hm, HW.out⟩ HV.out (Below.refl _ _)
    case round =>
      obtain ⟨M, j, carry, W, hj, hS, hO, hbw⟩ := hrel
      have HS : Hid (ScS L M f more j carry) := hS
      have HO : Hid (Own base wr (.slice (some ⟨g, 0, none⟩) M.length cap) M) := hO
      have hcb := hS.carry
      rcases Nat.lt_or_ge j n with hlt | hge
      · have hjM : j < M.length := by rw [hS.len, HN.out]; exact hlt
        have hcell := hO.cell j hjM
        have hfz := hO.frozen j
        have hmb := w32_get hS.w32 j
        have HST := (show Hid _ from fun (x : Nat) => scale_step (x := x) hS (by rw [HN.out]; exact hlt) hf)
        generalize M[j]?.getD 0 = m at *
        have k1 : (j : Int) < (n : Int) := by omega
        clear hS hO hjM
        have hxm : m * f ≤ 18446744065119617025 := Nat.le_trans (Nat.mul_le_mul (show m ≤ 4294967295 by omega) (show f ≤ 4294967295 by omega)) (by decide)
        have hw1 : IntKind.u64.wrap ((m : Int) * (f : Int)) = ((m * f : Nat) : Int) := by
          rw [IntKind.wrap_u64, ← Int.natCast_mul]
          omega
        obtain ⟨y, hy⟩ : ∃ y, y = m * f := ⟨_, rfl⟩
        rw [← hy] at hw1 hxm
        rw [← hy] at HST
        have hw2 : IntKind.u64.wrap ((carry : Int) + (y : Int)) = ((carry + y : Nat) : Int) := by
          rw [IntKind.wrap_u64]
          omega
        obtain ⟨x, hx⟩ : ∃ x, x = carry + y := ⟨_, rfl⟩
        rw [← hx] at hw2
        have HX : Hid (x = carry + y) := hx
        have hxb : x < 18446744073709551616 := by omega
        clear hy hx hxm
        go_wp2
        have hst := HST.out x HX.out
        have hset := HO.out.set j (x % 4294967296)
        have e1 : (x : Int) / 4294967296 = ((x / 4294967296 : Nat) : Int) := rfl
        have e2 : (x : Int) % 4294967296 = ((x % 4294967296 : Nat) : Int) := rfl
        have e3 : (j : Int) + 1 = ((j + 1 : Nat) : Int) := rfl
        rw [e1, e2, e3]
        refine ⟨.mk _ (j + 1) _ _ hlt hst hset (hbw.setCell hg0 _), ?_⟩
        simp only [RowKit.intOf, Int.toNat_natCast]
        omega
      · have hjn : j = n := by omega
        subst hjn
        clear hS hO
        go_wp2
        go_ret
        have hS := HS.out
        have hlow := hS.low
        have hlen := HN.out
        rw [List.take_of_length_le (by rw [hS.len]; omega), List.take_of_length_le (by omega)] at hlow
        have hO := HO.out
        rw [hS.len, hlen] at hO
        exact ⟨M, carry, rfl, by rw [hS.len, hlen], hS.w32, hcb, hlow, hO, hbw⟩
section
variable {ops : Array Oper} {rest : List Oper} {o : Oper} {a : Act} {Q : Exit → Act → World → Prop}
/-- append of one word, to a row of the call's own. -/
theorem appP (hgd : o.guard = none) (s x : Operand) (ho : o.op = .call { callee := .builtin .append, args := #[s, x], argTypes := #[117, 117] })
    (base n : Nat) (v : Value) (xs : List Value) (w0 w : World) (z : Int) (hown : w.ownsRow base 108 1 v n xs) (hs : a.eval s = v) (hx : a.eval x = .slice (some ⟨w.heap.size, 0, none⟩) 1 1)
    (hn : n + 1 ≤ 1000000) (hb : base ≤ w0.heap.size) (hbw : Below base w0 w)
    (h : ∀ v' w', w'.ownsRow base 108 1 v' (n + 1) (xs ++ [.int .u32 z]) → Below base w0 w' → wpList Tryz.prog ops Q rest (a.put o.dst v') w') :
    wpList Tryz.prog ops Q (o :: rest) a (w.alloc (.cells #[.int .u32 z] 108)) := by
  obtain ⟨i0, hi, hz0, hz1, hz2⟩ := info_parts info108
  have hsz := hbw.size
  have hb1 := hbw.alloc (Nat.le_trans hb hbw.size) (Obj.cells #[.int .u32 z] 108)
  have hown1 := hown.alloc (Obj.cells #[.int .u32 z] 108)
  refine wpList_append_own _ hgd s x 117 ho base 108 i0 (.int .u32 0) 1 4 Tryz.underlying117 hi hz0 hz1 hz2 rfl (by decide) v n xs hs hown1 ⟨w.heap.size, 0, none⟩ 1 1 [.int .u32 z] hx rfl (cells_new w [.int .u32 z] 108) (one_ints .u32 [z]) (max_small hn) (by omega) (by simp; omega) ?_
  intro v' w' hown' hgrow _
  exact h v' w' hown' (hb1.grown hgrow (by simp; omega) (fun j e => (hown1.lt j e).1))
end
/-- v holds the number x. -/
def NatP (base : Nat) (w : World) (v : Value) (x : Nat) : Prop := ∃ L, Own base w v L ∧ W32 L ∧ Top L ∧ val32 L = x
theorem top_pos {L : List Nat} (h : Top L) (hW : W32 L) (hL : L ≠ []) : 4294967296 ^ (L.length - 1) ≤ val32 L := by
  rcases List.eq_nil_or_concat L with h1 | ⟨M, z, h1⟩
  · exact absurd h1 hL
  · subst h1
    have hz : z ≠ 0 := h z (by simp)
    rw [List.concat_eq_append, val32_append, List.length_append, List.length_singleton, Nat.add_sub_cancel]
    have : 4294967296 ^ M.length * 1 ≤ 4294967296 ^ M.length * val32 [z] := Nat.mul_le_mul_left _ (by simp [val32]; omega)
    omega
theorem top_len {L : List Nat} (h : Top L) (hW : W32 L) {B : Nat} (hB : val32 L < 4294967296 ^ B) : L.length ≤ B := by
  rcases Nat.lt_or_ge B L.length with h1 | h1
  · exfalso
    have h2 := top_pos h hW (fun e => by rw [e] at h1; simp at h1)
    have h3 : 4294967296 ^ B ≤ 4294967296 ^ (L.length - 1) := Nat.pow_le_pow_right (by omega) (by omega)
    omega
  · exact h1
set_option maxRecDepth 100000 in
set_option maxHeartbeats 1000000 in
theorem times_any (base : Nat) (v : Value) (x : Nat) (B : Nat) (hB : B ≤ 1000) (hx : x < 4294967296 ^ B) (f more : Nat) (hf0 : 0 < f) (hf : f < 4294967296) (hm : more < 4294967296) (w : World) (hv : NatP base w v x) (hbs : base ≤ w.heap.size) :
    Calls Tryz.prog 94 #[v, .int .u32 (f : Int), .int .u32 (more : Int)] w fun e w' => ∃ v', e = .returned v' ∧ NatP base w' v' (f * x + more) ∧ Below base w w' := by
  obtain ⟨L, hO, hW, hT, rfl⟩ := hv
  have hlen := top_len hT hW hx
  have cs := scale_any base v L (by omega) hW f more hf hm w hO
  have HT : Hid (Top L ∧ W32 L) := ⟨hT, hW⟩
  clear hO hW hT hx
  go_enter Tryz.func94, Tryz.ntmps94
  go_wp2_with (first | (go_at_call 143; fail))
  refine cs.mono ?_
  rintro e w1 ⟨M, over, rfl, hMl, hMW, hov, hval, hO1, hb1⟩
  have HV : Hid (val32 M + 4294967296 ^ L.length * over = f * val32 L + more) := hval
  clear hval cs
  have hbig : Hid (over = 0 → Top M) := by
    show over = 0 → Top M
    intro h0
    subst h0
    have h1 := HV.out
    rw [Nat.mul_zero, Nat.add_zero] at h1
    intro z hz
    rcases List.eq_nil_or_concat M with h2 | ⟨M', y, h2⟩
    · rw [h2] at hz; simp at hz
    · have hy : y = z := by rw [h2] at hz; simpa using hz
      subst hy
      have hL0 : L ≠ [] := by
        intro h3
        rw [h3, h2] at hMl
        simp at hMl
      have h3 := top_pos HT.out.1 HT.out.2 hL0
      have h4 : val32 L ≤ f * val32 L := Nat.le_mul_of_pos_left _ hf0
      intro h5
      subst h5
      have h6 : W32 M' := fun x hx => hMW x (by rw [h2]; simp [hx])
      have h7 := val32_lt M' h6
      rw [h2, List.concat_eq_append, val32_append] at h1
      have h8 : M'.length = L.length - 1 := by rw [← hMl, h2]; simp
      rw [h8] at h7
      simp only [val32] at h1
      omega
  have hO1' : w1.ownsRow base 108 1 v M.length (M.map dv) := hO1
  have HO : Hid (Own base w1 v M) := hO1
  clear hO1
  by_cases ho : over = 0
  · subst ho
    have hT := hbig.out rfl
    have hv := HV.out
    rw [Nat.mul_zero, Nat.add_zero] at hv
    have HR : Hid (NatP base w1 v (f * val32 L + more)) := ⟨M, HO.out, hMW, hT, hv⟩
    clear hov hT hv hbig hO1'
    go_wp2
    go_ret
    exact ⟨_, rfl, HR.out, hb1⟩
  · have hoo : ((over : Int) != 0) = true := by rw [bne_iff_ne]; omega
    go_wp2_with (first | (at_builtin; refine appP rfl _ _ rfl base _ _ _ w _ _ hO1' rfl rfl (by omega) hbs hb1 ?_; intro v' w2 hO2 hb2))
    go_ret
    refine ⟨_, rfl, ⟨M ++ [over], ?_, ?_, ?_, ?_⟩, hb2⟩
    · unfold Own
      rw [List.map_append, List.length_append]
      exact hO2
    · intro x hx
      rcases List.mem_append.1 hx with h1 | h1
      · exact hMW x h1
      · simp at h1; omega
    · intro z hz
      simp at hz
      omega
    · rw [val32_append, hMl, ← HV.out]
      simp [val32]
end Go.Proofs.YtellndmbllmjgaaGreatDoor
/- The walks of natOf, timesFives, shifted. -/
set_option linter.unusedVariables false
namespace Go.Proofs.YtellndmbllmjgaaGreatDoor
open Go.RowKit Go.Shelf Go.Sort Fs Fl

theorem NatP.below {base : Nat} {w w' : World} {v : Value} {x : Nat} (h : NatP base w v x) (hb : Below w.heap.size w w') : NatP base w' v x := by
  obtain ⟨L, h1, h2⟩ := h
  exact ⟨L, h1.below hb, h2⟩
theorem NatP.mono {base base' : Nat} {w : World} {v : Value} {x : Nat} (h : NatP base w v x) (hb : base' ≤ base) : NatP base' w v x := by
  obtain ⟨L, h1, h2⟩ := h
  refine ⟨L, ⟨h1.1, ?_⟩, h2⟩
  rcases h1.2 with h3 | ⟨g, cap, cur, hv, hbg, hr⟩
  · exact .inl h3
  · exact .inr ⟨g, cap, cur, hv, Nat.le_trans hb hbg, hr⟩
theorem NatP.slice {base : Nat} {w : World} {v : Value} {x : Nat} (h : NatP base w v x) : ∃ a n c, v = .slice a n c := by
  obtain ⟨L, h1, h2⟩ := h
  rcases h1.forms with ⟨rfl, _⟩ | ⟨g, cap, rfl, _⟩
  · exact ⟨_, _, _, rfl⟩
  · exact ⟨_, _, _, rfl⟩
theorem w32_prefix {L M : List Nat} {k : Nat} (h : W32 L) (he : L = M ++ List.replicate k 0) : W32 M := fun d hd => h d (by rw [he]; simp [hd])
theorem val_prefix {L M : List Nat} {k : Nat} (he : L = M ++ List.replicate k 0) : val32 M = val32 L := by rw [he, val32_append, val32_zeros]; omega
set_option maxRecDepth 100000 in
set_option maxHeartbeats 1000000 in
theorem natOf_any (m : Nat) (hm : m < 18446744073709551616) (w : World) :
    Calls Tryz.prog 112 #[.int .u64 (m : Int)] w fun e w' => ∃ n, e = .returned (.slice (some ⟨w.heap.size, 0, none⟩) n 2) ∧ NatP w.heap.size w' (.slice (some ⟨w.heap.size, 0, none⟩) n 2) m ∧ Below w.heap.size w w' := by
  go_enter Tryz.func112, Tryz.ntmps112
  go_wp2_with (first | (go_at_call 158; fail))
  have hO : Own w.heap.size (w.alloc (.cells #[.int .u32 ((m % 4294967296 : Nat) : Int), .int .u32 ((m / 4294967296 : Nat) : Int)] 108)) (.slice (some ⟨w.heap.size, 0, none⟩) [m % 4294967296, m / 4294967296].length 2) [m % 4294967296, m / 4294967296] :=
    World.ownsRow_lit w #[.int .u32 ((m % 4294967296 : Nat) : Int), .int .u32 ((m / 4294967296 : Nat) : Int)] 2 (Nat.le_refl _) (by decide) rfl
  have hb : Below w.heap.size w (w.alloc (.cells #[.int .u32 ((m % 4294967296 : Nat) : Int), .int .u32 ((m / 4294967296 : Nat) : Int)] 108)) := (Below.refl _ _).alloc (Nat.le_refl _) _
  have ct := trimmed_some _ _ _ _ (by simp) _ hO
  have HB : Hid _ := hb
  clear hO hb
  go_fit ct
  rintro e w' ⟨M, k, rfl, h1, h2, h3, rfl⟩
  have HR : Hid (NatP w.heap.size (w.alloc (.cells #[.int .u32 ((m % 4294967296 : Nat) : Int), .int .u32 ((m / 4294967296 : Nat) : Int)] 108)) (.slice (some ⟨w.heap.size, 0, none⟩) M.length 2) m) := by
    refine ⟨M, h1, w32_prefix (fun d hd => ?_) h2, h3, ?_⟩
    · simp at hd
      rcases hd with rfl | rfl
      · exact Nat.mod_lt _ (by decide)
      · exact Nat.div_lt_of_lt_mul (by omega)
    · rw [val_prefix h2]
      simp only [val32]
      omega
  clear ct h1 h2 h3
  go_wp2
  go_ret
  exact ⟨_, rfl, HR.out, HB.out⟩
/-- What a loop of products keeps. -/
inductive FvR (base : Nat) (w : World) (x k : Nat) : Value → Value → World → Prop
  | mk (j : Nat) (a : Option Addr) (n c : Nat) (W : World) (hj : j ≤ k) (hv : NatP base W (.slice a n c) (5 ^ (k - j) * x)) (hb : Below base w W) : FvR base w x k (.slice a n c) (.int .i64 (j : Int)) W
inductive FwR (base : Nat) (w : World) (x k j : Nat) : Value → Value → World → Prop
  | mk (i : Nat) (a : Option Addr) (n c : Nat) (W : World) (hi : i ≤ j) (hv : NatP base W (.slice a n c) (5 ^ (k - j + i) * x)) (hb : Below base w W) : FwR base w x k j (.slice a n c) (.int .i64 (i : Int)) W
theorem five_lt' {x k j e b : Nat} (he : e = 1100) (hb : b = 1000) (hk : k ≤ e) (hx : x < 18446744073709551616) : 5 ^ (k - j) * x < 4294967296 ^ b := by
  have h1 : 5 ^ (k - j) ≤ 8 ^ e := Nat.le_trans (Nat.pow_le_pow_left (show 5 ≤ 8 by omega) _) (Nat.pow_le_pow_right (by omega) (by omega))
  have h2 : 5 ^ (k - j) * x < 8 ^ e * 18446744073709551616 := Nat.lt_of_le_of_lt (Nat.mul_le_mul_right _ h1) (Nat.mul_lt_mul_of_pos_left hx (Nat.pow_pos (by omega)))
  refine Nat.lt_of_lt_of_le h2 ?_
  have e1 : (8 : Nat) ^ e = 2 ^ (3 * e) := by rw [show (8 : Nat) = 2 ^ 3 from rfl, ← Nat.pow_mul]
  have e2 : (18446744073709551616 : Nat) = 2 ^ 64 := rfl
  have e3 : (4294967296 : Nat) ^ b = 2 ^ (32 * b) := by rw [show (4294967296 : Nat) = 2 ^ 32 from rfl, ← Nat.pow_mul]
  rw [e1, e2, e3, ← Nat.pow_add]
  exact Nat.pow_le_pow_right (by omega) (by omega)
set_option maxRecDepth 100000 in
set_option maxHeartbeats 1000000 in
theorem fives_any (base : Nat) (v : Value) (x k : Nat) (hk : k ≤ 1100) (hx : x < 18446744073709551616) (w : World) (hv : NatP base w v x) (hbs : base ≤ w.heap.size) :
    Calls Tryz.prog 155 #[v, .int .i64 (k : Int)] w fun e w' => ∃ v', e = .returned v' ∧ NatP base w' v' (5 ^ k * x) ∧ Below base w w' := by
  obtain ⟨va, vn, vc, rfl⟩ := hv.slice
  have HV : Hid (NatP base w (.slice va vn vc) x) := hv
  obtain ⟨B, hB⟩ : ∃ B, B = 1000 := ⟨_, rfl⟩
  have HB : Hid (B = 1000) := hB
  clear hv hB
  go_enter Tryz.func155, Tryz.ntmps155
  go_wp2
  go_loopw [0, 1] (fun va vk wr => FvR base w x k va vk wr) (fun _ vk _ => (RowKit.intOf vk).toNat)
  case atStart => exact .mk k _ _ _ _ (Nat.le_refl _) (by rw [Nat.sub_self, Nat.pow_zero, Nat.one_mul]; exact HV.out) (Below.refl _ _)
  case round =>
    obtain ⟨j, a, n, c, W, hj, hv, hb⟩ := hrel
    have HV2 : Hid (NatP base wr (.slice a n c) (5 ^ (k - j) * x)) := hv
    have hws := hb.size
    clear hv
    rcases Nat.lt_or_ge j 13 with hlt | hge
    · have k1 : ¬ (13 : Int) ≤ (j : Int) := by omega
      go_wp2
      rename World => wB
      go_loopw [0, 12] (fun va vi w3 => FwR base w x k j va vi w3) (fun _ vi _ => j - (RowKit.intOf vi).toNat)
      case atStart => exact .mk 0 _ _ _ _ (Nat.zero_le _) (by rw [Nat.add_zero]; exact HV2.out) hb
      case round =>
        clear HV2
        obtain ⟨i, a2, n2, c2, W2, hi, hv2, hb2⟩ := hrel
        have HV3 : Hid (NatP base wr (.slice a2 n2 c2) (5 ^ (k - j + i) * x)) := hv2
        have hws2 := hb2.size
        clear hv2
        rcases Nat.lt_or_ge i j with hlt2 | hge2
        · have k2 : (i : Int) < (j : Int) := by omega
          have hlt5 : 5 ^ (k - j + i) * x < 4294967296 ^ B := by
            have := five_lt' (x := x) (k := k) (j := j - i) rfl HB.out hk hx
            rw [show k - (j - i) = k - j + i by omega] at this
            exact this
          have ct := times_any base (.slice a2 n2 c2) (5 ^ (k - j + i) * x) B (by rw [HB.out]; omega) hlt5 5 0 (by omega) (by omega) (by omega) wr HV3.out (by omega)
          clear HV3 hlt5
          go_wp2_with (first | (go_at_call 94; fail))
          go_fit ct
          rintro e w4 ⟨v', rfl, hv', hb4⟩
          obtain ⟨a3, n3, c3, rfl⟩ := hv'.slice
          have HV4 : Hid (NatP base w4 (.slice a3 n3 c3) (5 * (5 ^ (k - j + i) * x) + 0)) := hv'
          clear hv' ct
          go_wp2
          have e3 : (i : Int) + 1 = ((i + 1 : Nat) : Int) := rfl
          rw [e3]
          refine ⟨.mk (i + 1) _ _ _ _ hlt2 ?_ (hb2.trans hb4), by simp only [RowKit.intOf, Int.toNat_natCast]; omega⟩
          have := HV4.out
          rw [Nat.add_zero, ← Nat.mul_assoc, ← Nat.pow_succ', show (k - j + i).succ = k - j + (i + 1) by omega] at this
          exact this
        · have hij : i = j := by omega
          subst hij
          go_wp2
          go_ret
          refine ⟨_, rfl, ?_, hb2⟩
          have := HV3.out
          rw [show k - i + i = k by omega] at this
          exact this
    · have k1 : (13 : Int) ≤ (j : Int) := by omega
      have ct := times_any base (.slice a n c) (5 ^ (k - j) * x) B (by rw [HB.out]; omega) (five_lt' rfl HB.out hk hx) 1220703125 0 (by omega) (by omega) (by omega) wr HV2.out (by omega)
      clear HV2
      go_wp2_with (first | (go_at_call 94; fail))
      go_fit ct
      rintro e w2 ⟨v', rfl, hv', hb2⟩
      obtain ⟨a2, n2, c2, rfl⟩ := hv'.slice
      have HV3 : Hid (NatP base w2 (.slice a2 n2 c2) (1220703125 * (5 ^ (k - j) * x) + 0)) := hv'
      clear hv' ct
      go_wp2
      have e3 : (j : Int) - 13 = ((j - 13 : Nat) : Int) := by omega
      rw [e3]
      refine ⟨.mk (j - 13) _ _ _ _ (by omega) ?_ (hb.trans hb2), by simp only [RowKit.intOf, Int.toNat_natCast]; omega⟩
      have := HV3.out
      rw [Nat.add_zero, show 1220703125 = 5 ^ 13 from rfl, ← Nat.mul_assoc, ← Nat.pow_add, show 13 + (k - j) = k - (j - 13) by omega] at this
      exact this
theorem made_size (n : Nat) : (madeCells (Value.int IntKind.u32 0).cells n).size = n := by
  rw [← Array.length_toList]
  have : (Value.int IntKind.u32 0).cells = #[Value.int IntKind.u32 0] := rfl
  rw [this, toList_madeCells_one, List.length_replicate]
theorem u32_one (L : List Nat) : ∀ u ∈ L.map dv, u.oneCell' = true := by
  intro u hu
  obtain ⟨y, _, rfl⟩ := List.mem_map.1 hu
  rfl
theorem made_u32 (k c : Nat) (h : k ≤ c) : ((madeCells #[Value.int .u32 0] (c * 1)).toList).take (k * 1) = (List.replicate k 0).map dv := by
  rw [Nat.mul_one, Nat.mul_one, toList_madeCells_one, List.take_replicate, Nat.min_eq_left h, List.map_replicate]
  rfl
set_option maxRecDepth 100000 in
set_option maxHeartbeats 1000000 in
theorem shifted_any (base g n0 c0 : Nat) (x n : Nat) (hn : n ≤ 1100) (hx : x < 18446744073709551616) (hx0 : x = 0 → n = 0) (w : World) (hv : NatP base w (.slice (some ⟨g, 0, none⟩) n0 c0) x) (hbs : base ≤ w.heap.size) :
    Calls Tryz.prog 113 #[.slice (some ⟨g, 0, none⟩) n0 c0, .int .i64 (n : Int)] w fun e w' => ∃ v', e = .returned v' ∧ NatP w.heap.size w' v' (2 ^ n * x) ∧ Below w.heap.size w w' := by
  obtain ⟨L, hO, hW, hT, hval⟩ := hv
  have hLn : L.length = n0 := by
    rcases hO.forms with ⟨h, _⟩ | ⟨g', cap', h, _⟩
    · cases h
    · cases h; rfl
  have hL2 : L.length ≤ 2 := top_len hT hW (by rw [hval]; exact hx)
  have hgw : g < w.heap.size := by
    rcases hO.forms with ⟨h, _⟩ | ⟨g', cap', h, _, h2, _⟩
    · cases h
    · cases h; exact h2
  obtain ⟨i0, hi, hz0, hz1, hz2⟩ := info_parts info108
  obtain ⟨k, hk⟩ : ∃ k, k = n / 32 := ⟨_, rfl⟩
  obtain ⟨r, hr⟩ : ∃ r, r = n % 32 := ⟨_, rfl⟩
  have hrn : n = 32 * k + r := by omega
  have ek : (n : Int) / 32 = (k : Int) := by omega
  have er : (n : Int) % 32 = (r : Int) := by omega
  have hmk := run_make (P := Tryz.prog) w 117 108 i0 (.int .u32 0) Tryz.underlying117 hi hz0 .i64 .i64 (k : Int) ((k : Int) + n0 + 1) (by omega) (by omega) (by rw [hz2]; omega) (by omega)
  rw [hz1, Int.toNat_natCast, show ((k : Int) + n0 + 1).toNat = k + n0 + 1 by omega] at hmk
  obtain ⟨W0, hW0⟩ : ∃ W0, W0 = w.alloc (Obj.cells (madeCells (Value.int IntKind.u32 0).cells ((k + n0 + 1) * 1)) 108) := ⟨_, rfl⟩
  have hown0 : W0.ownsRow w.heap.size 108 1 (.slice (some ⟨w.heap.size, 0, none⟩) k (k + n0 + 1)) k ((List.replicate k 0).map dv) := by
    refine ⟨by simp, .inr ⟨w.heap.size, k + n0 + 1, madeCells (Value.int IntKind.u32 0).cells ((k + n0 + 1) * 1), rfl, Nat.le_refl _, ?_, by omega, by unfold maxLen; omega, made_size _, made_u32 k (k + n0 + 1) (by omega)⟩⟩
    rw [hW0]
    exact heap_alloc_new w _
  have hb0 : Below w.heap.size w W0 := by rw [hW0]; exact (Below.refl _ _).alloc (Nat.le_refl _) _
  have hsz0 : w.heap.size ≤ W0.heap.size := hb0.size
  have hnews : ∀ j u, (L.map dv)[j]? = some u → W0.cell? ((⟨g, 0, none⟩ : Addr).add j) = some u := by
    intro j u hu
    rw [List.getElem?_map] at hu
    obtain ⟨y, hy, rfl⟩ := Option.map_eq_some_iff.1 hu
    have hj : j < L.length := (List.getElem?_eq_some_iff.1 hy).1
    have hO2 : Own base w (.slice (some ⟨g, 0, none⟩) L.length c0) L := by rw [hLn]; exact hO
    have hc := hO2.cell j hj
    rw [Addr.add_lit, Nat.zero_add, hb0.cell (p := ⟨g, j, none⟩) hgw, hc, hy]
    rfl
  have HN := (show Hid _ from hnews)
  have H0 : Hid (W0.ownsRow w.heap.size 108 1 (.slice (some ⟨w.heap.size, 0, none⟩) k (k + n0 + 1)) k ((List.replicate k 0).map dv)) := hown0
  have HL : Hid (W32 L ∧ Top L ∧ val32 L = x) := ⟨hW, hT, hval⟩
  rw [← hW0] at hmk
  rw [hLn] at hL2
  have HLn : Hid (L.length = n0) := hLn
  have HR : Hid (n = 32 * k + r ∧ r < 32) := ⟨hrn, by omega⟩
  have hk34 : k ≤ 34 := by omega
  have hr32 : r < 32 := by omega
  clear hnews hown0 hW hT hval hO hLn hrn hk hr hW0
  go_enter Tryz.func113, Tryz.ntmps113
  have hlm : (L.map dv).length = n0 * 1 := by rw [List.length_map, HLn.out, Nat.mul_one]
  have hone := u32_one L
  have hown := H0.out
  have hnews := HN.out
  go_wp2_with (first | (at_builtin; refine wpList_append_own _ rfl _ _ 117 rfl w.heap.size 108 i0 (.int .u32 0) 1 4 Tryz.underlying117 hi hz0 hz1 hz2 rfl (by decide) _ k _ rfl hown ⟨g, 0, none⟩ n0 c0 (L.map dv) rfl hlm hnews hone (by unfold maxLen; omega) (by omega) hsz0 ?_; intro v' w2 hown2 hgrow _; have hb2 : Below w.heap.size w w2 := hb0.grown hgrow hsz0 (fun j e => by cases e; exact Nat.le_refl _)) | (go_at_call 94; fail))
  have hrp : 2 ^ r < 4294967296 := Nat.lt_of_lt_of_le (Nat.pow_lt_pow_right (by omega) hr32) (by decide)
  have hrp0 : 0 < 2 ^ r := Nat.pow_pos (by omega)
  have e2 : ((2 : Int) ^ r % 4294967296) = ((2 ^ r : Nat) : Int) := by
    have e3 : ((2 : Int) ^ r) = ((2 ^ r : Nat) : Int) := by simp
    rw [e3]
    omega
  rw [e2]
  have HP : Hid (NatP w.heap.size w2 v' (4294967296 ^ k * x)) := by
    obtain ⟨hW, hT, hval⟩ := HL.out
    refine ⟨List.replicate k 0 ++ L, ?_, ?_, ?_, ?_⟩
    · unfold Own
      rw [List.length_append, List.length_replicate, HLn.out, List.map_append]
      exact hown2
    · intro d hd
      rcases List.mem_append.1 hd with h1 | h1
      · have := List.eq_of_mem_replicate h1; omega
      · exact hW d h1
    · intro z hz
      rcases List.eq_nil_or_concat L with h1 | ⟨M, y, h1⟩
      · have h2 := hx0 (by rw [← hval, h1]; rfl)
        have h3 := HR.out
        have h4 : k = 0 := by omega
        rw [h1, h4] at hz
        simp at hz
      · rw [h1, List.concat_eq_append, ← List.append_assoc] at hz
        simp at hz
        subst hz
        exact hT y (by rw [h1]; simp)
    · rw [val32_append, val32_zeros, List.length_replicate, hval]
      omega
  obtain ⟨B, hB⟩ : ∃ B, B = 100 := ⟨_, rfl⟩
  have hlt : 4294967296 ^ k * x < 4294967296 ^ B := by
    have h1 : 4294967296 ^ k * x < 4294967296 ^ k * 4294967296 ^ 2 := Nat.mul_lt_mul_of_pos_left hx (Nat.pow_pos (by omega))
    rw [← Nat.pow_add] at h1
    exact Nat.lt_of_lt_of_le h1 (Nat.pow_le_pow_right (by omega) (by omega))
  have hsz2 := hb2.size
  have ct := times_any w.heap.size v' (4294967296 ^ k * x) B (by omega) hlt (2 ^ r) 0 hrp0 hrp (by omega) w2 HP.out hsz2
  have HE : Hid (2 ^ r * (4294967296 ^ k * x) + 0 = 2 ^ n * x) := by
    show 2 ^ r * (4294967296 ^ k * x) + 0 = 2 ^ n * x
    rw [Nat.add_zero, ← Nat.mul_assoc, show (4294967296 : Nat) = 2 ^ 32 from rfl, ← Nat.pow_mul, ← Nat.pow_add, HR.out.1, Nat.add_comm r]
  clear hown2 hgrow hown hnews HN H0 HP hlt hB e2 hmk hlm hone
  go_fit ct
  rintro e w3 ⟨v3, rfl, hv3, hb3⟩
  rw [HE.out] at hv3
  have HV3 := (show Hid _ from hv3)
  clear hv3 ct
  go_wp2
  go_ret
  exact ⟨_, rfl, HV3.out, hb2.trans hb3⟩
end Go.Proofs.YtellndmbllmjgaaGreatDoor
/- Digits as bytes, and what they count. -/
set_option linter.unusedVariables false
namespace Go.Proofs.YtellndmbllmjgaaGreatDoor
namespace Fs

/-- What digits count. -/
def vD (l : List Nat) : Nat := l.foldl (fun a c => a * 10 + (c - 48)) 0
/-- Digits alone. -/
def Dig (l : List Nat) : Prop := ∀ c ∈ l, 48 ≤ c ∧ c < 58
theorem vD_from (l : List Nat) : ∀ a : Nat, l.foldl (fun a c => a * 10 + (c - 48)) a = a * 10 ^ l.length + vD l := by
  induction l with
  | nil => intro a; simp [vD]
  | cons c l ih =>
    intro a
    have h1 := ih (a * 10 + (c - 48))
    have h2 := ih (0 * 10 + (c - 48))
    unfold vD
    rw [List.foldl_cons, List.foldl_cons, h1, h2, List.length_cons, Nat.pow_succ]
    grind
theorem vD_nil : vD [] = 0 := rfl
theorem vD_append (l m : List Nat) : vD (l ++ m) = vD l * 10 ^ m.length + vD m := by
  have : vD (l ++ m) = m.foldl (fun a c => a * 10 + (c - 48)) (vD l) := by unfold vD; rw [List.foldl_append]
  rw [this, vD_from]
theorem vD_one (c : Nat) : vD [c] = c - 48 := by simp [vD]
theorem vD_snoc (l : List Nat) (c : Nat) : vD (l ++ [c]) = vD l * 10 + (c - 48) := by rw [vD_append, vD_one]; simp
theorem vD_cons (c : Nat) (l : List Nat) : vD (c :: l) = (c - 48) * 10 ^ l.length + vD l := by
  have := vD_append [c] l
  rwa [vD_one, List.singleton_append] at this
theorem vD_zeros : ∀ t, vD (List.replicate t 48) = 0
  | 0 => rfl
  | t + 1 => by rw [List.replicate_succ, vD_cons, vD_zeros t]; simp
theorem Dig.append {l m : List Nat} (h1 : Dig l) (h2 : Dig m) : Dig (l ++ m) := fun c hc => (List.mem_append.1 hc).elim (h1 c) (h2 c)
theorem Dig.left {l m : List Nat} (h : Dig (l ++ m)) : Dig l := fun c hc => h c (List.mem_append.2 (Or.inl hc))
theorem Dig.right {l m : List Nat} (h : Dig (l ++ m)) : Dig m := fun c hc => h c (List.mem_append.2 (Or.inr hc))
theorem Dig.take {l : List Nat} (h : Dig l) (k : Nat) : Dig (l.take k) := fun c hc => h c (List.mem_of_mem_take hc)
theorem Dig.drop {l : List Nat} (h : Dig l) (k : Nat) : Dig (l.drop k) := fun c hc => h c (List.mem_of_mem_drop hc)
theorem dig_zeros (t : Nat) : Dig (List.replicate t 48) := fun c hc => by
  have := List.eq_of_mem_replicate hc
  omega
theorem vD_lt : ∀ (l : List Nat), Dig l → vD l < 10 ^ l.length
  | [], _ => by simp [vD]
  | c :: l, h => by
    have h1 := vD_lt l (fun x hx => h x (List.mem_cons_of_mem _ hx))
    have h2 := h c (List.mem_cons_self ..)
    rw [vD_cons, List.length_cons, Nat.pow_succ]
    have h3 : (c - 48) * 10 ^ l.length ≤ 9 * 10 ^ l.length := Nat.mul_le_mul_right _ (by omega)
    omega
theorem vD_ge (c : Nat) (l : List Nat) (h : 48 < c) : 10 ^ l.length ≤ vD (c :: l) := by
  rw [vD_cons]
  have h3 : 1 * 10 ^ l.length ≤ (c - 48) * 10 ^ l.length := Nat.mul_le_mul_right _ (by omega)
  omega
/-- The digits of a number. -/
theorem decN_small {d : Nat} (h : d < 10) : decN d = [48 + d] := by
  unfold decN
  rw [Lib.decDigits, dif_pos h]
  simp only [List.map_cons, List.map_nil, UInt8.toNat_ofNat']
  congr 1
  omega
theorem decN_big {d : Nat} (h : ¬ d < 10) : decN d = decN (d / 10) ++ [48 + d % 10] := by
  unfold decN
  conv => lhs; rw [Lib.decDigits, dif_neg h]
  simp only [List.map_append, List.map_cons, List.map_nil, UInt8.toNat_ofNat']
  congr 2
  omega
theorem vD_decN (d : Nat) : vD (decN d) = d := by
  induction d using Nat.strongRecOn with
  | ind d ih =>
    by_cases h : d < 10
    · rw [decN_small h, vD_one]; omega
    · rw [decN_big h, vD_snoc, ih (d / 10) (by omega)]
      omega
theorem dig_decN (d : Nat) : Dig (decN d) := by
  induction d using Nat.strongRecOn with
  | ind d ih =>
    by_cases h : d < 10
    · rw [decN_small h]
      intro c hc
      have := List.mem_singleton.1 hc
      omega
    · rw [decN_big h]
      refine (ih (d / 10) (by omega)).append ?_
      intro c hc
      have := List.mem_singleton.1 hc
      omega
/-- The first digit is not nought. -/
theorem decN_head (d : Nat) (h0 : 0 < d) : ∃ c l, decN d = c :: l ∧ 48 < c ∧ c < 58 := by
  induction d using Nat.strongRecOn with
  | ind d ih =>
    by_cases h : d < 10
    · exact ⟨48 + d, [], decN_small h, by omega, by omega⟩
    · obtain ⟨c, l, e, h1, h2⟩ := ih (d / 10) (by omega) (by omega)
      exact ⟨c, l ++ [48 + d % 10], by rw [decN_big h, e]; rfl, h1, h2⟩
/-- Digits without noughts ahead are what they count. -/
theorem decN_of (c : Nat) (l : List Nat) (h : Dig (c :: l)) (hc : 48 < c) : decN (vD (c :: l)) = c :: l := by
  obtain ⟨n, hn⟩ : ∃ n, n = l.length := ⟨_, rfl⟩
  induction n using Nat.strongRecOn generalizing l with
  | ind n ih =>
    rcases List.eq_nil_or_concat l with rfl | ⟨m, x, rfl⟩
    · have := h c (by simp)
      rw [vD_one, decN_small (by omega)]
      congr 1
      omega
    · have hx := h x (by simp)
      rw [List.concat_eq_append] at h hn ⊢
      have hm : Dig (c :: m) := fun y hy => h y (by simp at hy ⊢; rcases hy with hy | hy <;> simp [hy])
      have e := ih m.length (by rw [hn]; simp) m hm rfl
      have hg := vD_ge c m hc
      have hp : 0 < 10 ^ m.length := Nat.pow_pos (by decide)
      rw [← List.cons_append, vD_snoc, decN_big (by omega)]
      rw [show (vD (c :: m) * 10 + (x - 48)) / 10 = vD (c :: m) by omega, e]
      congr 2
      omega
end Fs
end Go.Proofs.YtellndmbllmjgaaGreatDoor
/- Texts of a list: pieces and signs; noughts behind a number. -/
set_option linter.unusedVariables false
namespace Go.Proofs.YtellndmbllmjgaaGreatDoor
open Go.RowKit Go.Shelf Go.Sort Fs Fl

theorem decN_shift (d t : Nat) (h0 : 0 < d) : decN (d * 10 ^ t) = decN d ++ List.replicate t 48 := by
  obtain ⟨c, l, e, h1, h2⟩ := decN_head d h0
  have hd := (dig_decN d).append (dig_zeros t)
  have hv : vD (decN d ++ List.replicate t 48) = d * 10 ^ t := by rw [vD_append, vD_decN, vD_zeros, List.length_replicate, Nat.add_zero]
  rw [← hv]
  rw [e, List.cons_append] at hd ⊢
  exact decN_of c _ hd h1
theorem txt_get (l : List Nat) (k c : Nat) (hl : l[k]? = some c) (hc : c < 256) : ∀ h : k < (txt l).size, ((txt l)[k]'h).toNat = c := by
  intro h
  have h2 : k < l.length := by rw [txt_size] at h; exact h
  have e1 : (txt l)[k]'h = UInt8.ofNat (l[k]) := by
    show (txt l).data[k] = _
    simp [txt]
  rw [e1]
  rw [List.getElem?_eq_getElem h2] at hl
  rw [Option.some.inj hl, UInt8.toNat_ofNat', Nat.mod_eq_of_lt hc]
theorem ext_take (l m : List Nat) : (txt (l ++ m)).extract 0 l.length = txt l := by
  rw [txt_extract, List.drop_zero, Nat.sub_zero, List.take_left]
theorem ext_all (l : List Nat) : (txt l).extract 0 (txt l).size = txt l := by
  simp
theorem get_txt (l : List Nat) (h : ∀ c ∈ l, c < 256) (k c : Nat) (hc : l[k]? = some c) : ∀ hk : k < (txt l).size, ((txt l)[k]'hk).toNat = c := txt_get l k c hc (h c (List.mem_of_getElem? hc))
theorem vD_nines (l : List Nat) : ∀ k, vD (l ++ List.replicate k 57) + 1 = (vD l + 1) * 10 ^ k
  | 0 => by simp
  | k + 1 => by
    rw [List.replicate_succ', ← List.append_assoc, vD_snoc]
    have := vD_nines l k
    rw [Nat.pow_succ, ← Nat.mul_assoc, ← this]
    omega
theorem vD_more (l : List Nat) (c k : Nat) (hc : 48 ≤ c) : vD (l ++ [c + 1] ++ List.replicate k 48) = vD (l ++ [c] ++ List.replicate k 57) + 1 := by
  rw [vD_nines, vD_append, vD_zeros, List.length_replicate, vD_snoc, vD_snoc, Nat.add_zero]
  congr 1
  omega
theorem vD_over (k : Nat) : vD (49 :: List.replicate k 48) = vD (List.replicate k 57) + 1 := by
  have := vD_nines [] k
  rw [List.nil_append] at this
  rw [this, vD_cons, vD_zeros, List.length_replicate]
  simp [vD]
end Go.Proofs.YtellndmbllmjgaaGreatDoor
