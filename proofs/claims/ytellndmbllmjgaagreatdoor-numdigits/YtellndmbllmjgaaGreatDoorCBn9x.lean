/- Power. -/
import Derived.Test.YtellndmbllmjgaaGreatDoorCBn5x
import Derived.Test.YtellndmbllmjgaaGreatDoorCFe2x
import Derived.Deep.RegionWith
set_option linter.unusedVariables false
namespace Go.Proofs.YtellndmbllmjgaaGreatDoor
open Go.RowKit Go.Shelf Go.Sort Fs Fl

theorem pw_add (a b : Nat) : pw (a + b) = pw a * pw b := Nat.pow_add ..
theorem pw_pos (a : Nat) : 0 < pw a := Nat.pow_pos (by omega)
/-- What holds ahead of each round of Power. -/
def PowR (w : World) (T : Nat) (vn vo vb : Value) (wr : World) : Prop :=
  ∃ (k O B : Nat), vn = .int .i64 (k : Int) ∧ k ≤ 10000 ∧ NatIs wr vo O ∧ NatIs wr vb B ∧ 1 ≤ O ∧ 1 ≤ B ∧ O * B ^ k = T ∧ Below w.heap.size w wr
theorem pow_facts {O B k T : Nat} (h0 : 0 < k) (h1 : 1 ≤ O) (h2 : 1 ≤ B) (h : O * B ^ k = T) : O ≤ T ∧ B ≤ T := by
  have a1 : 1 ≤ B ^ k := Nat.pow_pos h2
  have a2 : O * 1 ≤ O * B ^ k := Nat.mul_le_mul_left _ a1
  have a3 : B ^ 1 ≤ B ^ k := Nat.pow_le_pow_right h2 h0
  have a4 : 1 * B ^ k ≤ O * B ^ k := Nat.mul_le_mul_right _ h1
  rw [Nat.pow_one] at a3
  omega
theorem pow_odd {O B k T : Nat} (h : O * B ^ (2 * k + 1) = T) : O * B * (B * B) ^ k = T := by
  rw [← h, Nat.pow_succ, Nat.pow_mul, Nat.pow_two]
  generalize (B * B) ^ k = x
  grind
theorem pow_even {O B k T : Nat} (h : O * B ^ (2 * k) = T) : O * (B * B) ^ k = T := by
  rw [← h, Nat.pow_mul, Nat.pow_two]
set_option maxRecDepth 100000 in
set_option maxHeartbeats 400000 in
theorem power_any (b : Nat) (n : Int) (hb1 : 1 ≤ b) (hb2 : b < 65536) (hn1 : -100000 ≤ n) (hn : n ≤ 10000) (hB : b ^ n.toNat < pw 500) (w : World) :
    Calls Tryz.prog 64 #[.int .u64 (b : Int), .int .i64 n] w fun e w' => ∃ v, e = .returned v ∧ NatIs w' v (b ^ n.toNat) ∧ Below w.heap.size w w' := by
  have c1 : ∀ w, Calls Tryz.prog 32 #[.int .u64 1] w fun e w' => ∃ v, e = .returned v ∧ NatIs w' v 1 ∧ Below w.heap.size w w' := fun w => nat_any 1 (by omega) w
  have c2 := fun w => nat_any b (by omega) w
  obtain ⟨T, hT⟩ : ∃ T, T = b ^ n.toNat := ⟨_, rfl⟩
  rw [← hT] at hB
  rw [← hT]
  have HT : Hid (T = b ^ n.toNat) := hT
  clear hT
  have HT5 : Hid (T < pw 1000) := Nat.lt_of_lt_of_le hB (pw_mono (by omega))
  clear hB
  go_enter Tryz.func64, Tryz.ntmps64
  go_wp2_with (first | (go_at_call 32; refine (c1 _).mono ?_; rintro e w1 ⟨v1, rfl, hv1, hw1⟩; clear c1) | (go_at_call 32; refine (c2 _).mono ?_; rintro e w2 ⟨v2, rfl, hv2, hw2⟩; clear c2))
  skip
  have hw12 : Below w.heap.size w w2 := hw1.trans (hw2.mono hw1.size)
  have hv1' := hv1.below hw2
  by_cases hneg : n < 0
  · have HT0 : T = 1 := by rw [HT.out, show n.toNat = 0 by omega, Nat.pow_zero]
    subst HT0
    have k0 : ¬ (0 : Int) < n := by omega
    refine wp_loop_once ?_
    go_wp2
    go_ret
    exact ⟨v1, rfl, hv1', hw12⟩
  · skip
    obtain ⟨k0, rfl⟩ : ∃ k0 : Nat, n = (k0 : Int) := ⟨n.toNat, by omega⟩
    go_loopw [1, 5, 6] (fun vn vo vb wr => PowR w T vn vo vb wr) (fun vn _ _ _ => (RowKit.intOf vn).toNat)
    case atStart => exact ⟨k0, 1, b, rfl, by omega, hv1', hv2, by omega, hb1, by rw [HT.out, Nat.one_mul]; rfl, hw12⟩
    case round =>
      obtain ⟨k, O, B, rfl, hk, hO, hBi, h1, h2, hv, hbw⟩ := hrel
      have HV : Hid (O * B ^ k = T) := hv
      clear hv hv1 hv2 hv1' hw1 hw2 hw12
      skip
      rcases Nat.eq_zero_or_pos k with h0 | h0
      · have HO : O = T := by have := HV.out; rw [h0, Nat.pow_zero, Nat.mul_one] at this; exact this
        subst h0
        go_wp2
        go_ret
        exact ⟨_, rfl, HO ▸ hO, hbw⟩
      · obtain ⟨f1, f2⟩ := pow_facts h0 h1 h2 HV.out
        have k1 : (0 : Int) < (k : Int) := by omega
        have bB : B < pw 1000 := Nat.lt_of_le_of_lt f2 HT5.out
        have mb := fun (w' : World) (hb' : Below wr.heap.size wr w') => mul_any u6 u6 B B w' (hBi.below hb') (hBi.below hb') bB bB
        skip
        rcases Nat.mod_two_eq_zero_or_one k with hp | hp
        · have k2 : ((k : Int) % 2 == 1) = false := by rw [beq_eq_false_iff_ne]; omega
          have mb0 := mb wr (Below.refl _ _)
          clear mb bB
          go_wp2_with (first | (go_at_call 65; refine mb0.mono ?_; rintro e w3 ⟨v3, rfl, hv3, hw3⟩))
          refine ⟨⟨k / 2, O, B * B, by go_num, by omega, hO.below hw3, hv3, h1, Nat.mul_pos h2 h2, pow_even (by rw [show 2 * (k / 2) = k by omega]; exact HV.out), hbw.trans (hw3.mono hbw.size)⟩, ?_⟩
          simp only [RowKit.intOf]
          omega
        · skip
          have k2 : ((k : Int) % 2 == 1) = true := by rw [beq_iff_eq]; omega
          have mo := mul_any u5 u6 O B wr hO hBi (Nat.lt_of_le_of_lt f1 HT5.out) bB
          clear bB
          have HMB := (show Hid _ from mb)
          clear mb
          go_wp2_with (first | (go_at_call 65; refine mo.mono ?_; rintro e w3 ⟨v3, rfl, hv3, hw3⟩; have mb3 := HMB.out w3 hw3; clear mo) | (go_at_call 65; refine mb3.mono ?_; rintro e w4 ⟨v4, rfl, hv4, hw4⟩; clear mb3))
          refine ⟨⟨k / 2, O * B, B * B, by go_num, by omega, hv3.below hw4, hv4, Nat.mul_pos h1 h2, Nat.mul_pos h2 h2, pow_odd (by rw [show 2 * (k / 2) + 1 = k by omega]; exact HV.out), (hbw.trans (hw3.mono hbw.size)).trans (hw4.mono (hbw.trans (hw3.mono hbw.size)).size)⟩, ?_⟩
          simp only [RowKit.intOf]
          omega
end Go.Proofs.YtellndmbllmjgaaGreatDoor
/- Small; bits. -/
set_option linter.unusedVariables false
namespace Go.Proofs.YtellndmbllmjgaaGreatDoor
open Go.RowKit Go.Shelf Go.Sort Fs Fl

/-- A row that lies in a block of digits. -/
def T108 (w : World) (v : Value) : Prop := ∃ b k c C fr, v = .slice (some ⟨b, 0, none⟩) k c ∧ w.heap[b]? = some (Obj.cells C 108 fr)
theorem cut_out (L : List Nat) (g n : Nat) (hL : L.length = n) (hn : n ≤ 1000000) (hd : ∀ d ∈ L, d < 65536) (w : World) (hO : OutIs w g L) :
    Calls Tryz.prog 117 #[.slice (some ⟨g, 0, none⟩) n n] w fun e w' => ∃ v', e = .returned v' ∧ NatIs w v' (val L) ∧ T108 w v' ∧ w' = w := by
  subst hL
  have hc : ∀ j, j < L.length → w.cell? ⟨g, 0 + j, none⟩ = some (.int .u32 ((L[j]?.getD 0 : Nat) : Int)) := fun j hj => by rw [Nat.zero_add]; exact hO.cell j hj
  have hg : g < w.heap.size := lt_of_get hO
  refine (cut_row L g 0 L.length hn (Nat.le_refl _) (by omega) w hg hc).mono ?_
  rintro e w' ⟨k, hk, hz, hlast, rfl, rfl⟩
  refine ⟨_, rfl, ⟨L.take k, Row32.take rfl ⟨Nat.le_refl _, by omega⟩ hg hc hk, ⟨fun d h => hd d (List.mem_of_mem_take h), ?_⟩, take_zero L k hz⟩, ⟨g, k, L.length, _, _, rfl, hO⟩, rfl⟩
  have hlen : (L.take k).length = k := by rw [List.length_take]; omega
  rw [hlen]
  intro h0
  rw [List.getElem?_take_of_lt (by omega)]
  exact hlast h0
/-- What holds ahead of each round of Small. -/
def SmR (w : World) (l : List Nat) (n d : Nat) (vl vi : Value) (wr : World) : Prop :=
  ∃ (k left : Nat) (L : List Nat), vi = .int .i64 ((k : Int) - 1) ∧ vl = .int .u32 (left : Int) ∧ left < d ∧ k ≤ n ∧ OutIs wr w.heap.size L ∧ L.length = n ∧ (∀ x ∈ L, x < 65536) ∧ val (l.drop k) = d * val (L.drop k) + left ∧ Below w.heap.size w wr
theorem small_step {l L : List Nat} {n d j left q r : Nat} (hj : j < n) (hL : L.length = n) (hv : val (l.drop (j + 1)) = d * val (L.drop (j + 1)) + left) (hx : left * 65536 + l[j]?.getD 0 = d * q + r) : val (l.drop j) = d * val ((L.set j q).drop j) + r := by
  rw [drop_val l j, drop_val (L.set j q) j, hv]
  have e1 : (L.set j q)[j]?.getD 0 = q := by rw [List.getElem?_set_self (by omega)]; rfl
  have e2 : (L.set j q).drop (j + 1) = L.drop (j + 1) := by
    rw [List.drop_set_of_lt (by omega)]
  rw [e1, e2]
  generalize l[j]?.getD 0 = a at *
  generalize val (L.drop (j + 1)) = V at *
  have : 65536 * (d * V + left) + a = 65536 * (d * V) + (left * 65536 + a) := by grind
  grind
set_option maxRecDepth 100000 in
set_option maxHeartbeats 1000000 in
theorem small_1 (l : List Nat) (d b1 o1 c1 : Nat) (hd0 : 0 < d) (hd : d ≤ 36) (hl : ∀ d ∈ l, d < 65536) (hll : l.length ≤ 1000) (w : World)
    (hb1 : b1 < w.heap.size) (hc1 : ∀ j, j < l.length → w.cell? ⟨b1, o1 + j, none⟩ = some (.int .u32 ((l[j]?.getD 0 : Nat) : Int))) :
    Calls Tryz.prog 85 #[.slice (some ⟨b1, o1, none⟩) l.length c1, .int .u32 (d : Int)] w fun e w' => ∃ v, e = .returned (.tuple #[v, .int .u32 ((val l % d : Nat) : Int)]) ∧ NatIs w' v (val l / d) ∧ T108 w' v ∧ Below w.heap.size w w' := by
  obtain ⟨i0, hi, hz0, hz1, hz2⟩ := info_parts info108
  obtain ⟨n, hn⟩ : ∃ n, l.length = n := ⟨_, rfl⟩
  rw [hn] at hll hc1 ⊢
  go_enter Tryz.func85, Tryz.ntmps85
  go_wp2_with (first | (refine wpList_make_full _ rfl _ _ 53 rfl w.heap.size 108 i0 (.int .u32 0) 1 Tryz.underlying53 hi hz0 hz1 .i64 .i64 _ _ n rfl rfl (by go_num) (by go_num) (by rw [hz2]; omega) (by unfold maxLen; omega) (Nat.le_refl _) ?_; intro w1 hown0 hg0))
  have hb0 : Below w.heap.size w w1 := (Below.refl _ _).grown hg0 (Nat.le_refl _) (fun k e => by cases e)
  have hO0 := out_of_own hown0 (made_zero n)
  clear hown0 hg0
  go_loopw [7, 8] (fun vl vi wr => SmR w l n d vl vi wr) (fun _ vi _ => (RowKit.intOf vi + 1).toNat)
  case atStart => exact ⟨n, 0, List.replicate n 0, rfl, rfl, hd0, Nat.le_refl _, hO0, by simp, zeros_lt n, by rw [List.drop_of_length_le (by omega), List.drop_of_length_le (by simp)]; simp [val], hb0⟩
  case round =>
    obtain ⟨k, left, L, rfl, rfl, hleft, hk, hO, hLn, hLd, hv, hbw⟩ := hrel
    have HL : Hid (L.length = n ∧ (∀ x ∈ L, x < 65536) ∧ val (l.drop k) = d * val (L.drop k) + left) := ⟨hLn, hLd, hv⟩
    have HO : Hid (OutIs wr w.heap.size L) := hO
    clear hLn hLd hv hO hO0 hb0
    rcases Nat.eq_zero_or_pos k with h0 | h0
    · subst h0
      obtain ⟨a1, a2, a3⟩ := HL.out
      have ct := cut_out L w.heap.size n a1 (by omega) a2 wr HO.out
      have HF : Hid (val L = val l / d ∧ left = val l % d) := by
        show val L = val l / d ∧ left = val l % d
        rw [List.drop_zero, List.drop_zero] at a3
        rw [a3, Nat.mul_add_div hd0, Nat.div_eq_of_lt hleft, Nat.mul_add_mod, Nat.mod_eq_of_lt hleft]
        exact ⟨rfl, rfl⟩
      clear a1 a2 a3 hc1 hl
      go_wp2_with (first | (go_at_call 117; refine ct.mono ?_; rintro e w2 ⟨v', rfl, hv', hT', rfl⟩))
      go_ret2
      rw [← HF.out.1, ← HF.out.2]
      exact ⟨v', rfl, hv', hT', hbw⟩
    · obtain ⟨j, rfl⟩ : ∃ j, k = j + 1 := ⟨k - 1, by omega⟩
      have ej : ((j + 1 : Nat) : Int) - 1 = (j : Int) := by omega
      have x1 := (hbw.cell (p := ⟨b1, o1 + j, none⟩) hb1).trans (hc1 j (by omega))
      have la := getD_lt hl j
      have y3 := HO.out.cell j (by have := HL.out.1; omega)
      have y4 := HO.out.frozen j
      have STEP := fun q r (hx : left * 65536 + l[j]?.getD 0 = d * q + r) => small_step (n := n) (by omega) HL.out.1 HL.out.2.2 hx
      have HST := (show Hid _ from STEP)
      clear STEP hc1 hl
      generalize l[j]?.getD 0 = a at *
      generalize L[j]?.getD 0 = z at y3
      have e3 : ((d : Int) == 0) = false := by rw [beq_eq_false_iff_ne]; omega
      have k1 : (j : Int) < (n : Int) := by omega
      rw [ej]
      go_wp2
      obtain ⟨x, hx⟩ : ∃ x, x = left * 65536 + a := ⟨_, rfl⟩
      have f0 : (left : Int) * 65536 + (a : Int) = (x : Int) := by omega
      have f1 : (x : Int) / (d : Int) = ((x / d : Nat) : Int) := rfl
      have f2 : (x : Int) % (d : Int) = ((x % d : Nat) : Int) := rfl
      rw [f0, f1, f2]
      have hxd : x / d < 65536 := by
        rw [Nat.div_lt_iff_lt_mul hd0]
        omega
      refine ⟨⟨j, x % d, L.set j (x / d), rfl, rfl, Nat.mod_lt _ hd0, by omega, OutIs.set HO.out j (x / d), by rw [List.length_set]; exact HL.out.1, set_lt HL.out.2.1 hxd, HST.out _ _ (by rw [← hx]; exact (Nat.div_add_mod x d).symm), hbw.setCell (Nat.le_refl _) _⟩, ?_⟩
      simp only [RowKit.intOf]
      omega
/-- **Small.** -/
theorem small_any (u : Value) (x d : Nat) (hd0 : 0 < d) (hd : d ≤ 36) (w : World) (hx : NatIs w u x) (h0 : 0 < x) (bx : x < pw 1000) :
    Calls Tryz.prog 85 #[u, .int .u32 (d : Int)] w fun e w' => ∃ v, e = .returned (.tuple #[v, .int .u32 ((x % d : Nat) : Int)]) ∧ NatIs w' v (x / d) ∧ T108 w' v ∧ Below w.heap.size w w' := by
  obtain ⟨l, hl1, hl2, rfl⟩ := hx
  have l1 := len_le hl2 bx
  rcases hl1 with ⟨⟨oa, c1, rfl, _⟩, hle⟩ | ⟨b1, o1, c1, rfl, _, hb1, hc1⟩
  · subst hle
    exact absurd h0 (by simp [val])
  · exact small_1 l d b1 o1 c1 hd0 hd hl2.1 l1 w hb1 hc1
/-- How many bits a number has. -/
def BitsIs (x t : Nat) : Prop := (x = 0 ∧ t = 0) ∨ (1 ≤ t ∧ 2 ^ (t - 1) ≤ x ∧ x < 2 ^ t)
theorem pow16 (n : Nat) : 65536 ^ n = 2 ^ (16 * n) := by rw [Nat.pow_mul]
set_option maxRecDepth 100000 in
set_option maxHeartbeats 1000000 in
theorem bits_1 (l : List Nat) (b1 o1 c1 : Nat) (hl : Ok l) (h0 : 0 < l.length) (hll : l.length ≤ 1000) (w : World)
    (hb1 : b1 < w.heap.size) (hc1 : ∀ j, j < l.length → w.cell? ⟨b1, o1 + j, none⟩ = some (.int .u32 ((l[j]?.getD 0 : Nat) : Int))) :
    Calls Tryz.prog 66 #[.slice (some ⟨b1, o1, none⟩) l.length c1] w fun e w' => ∃ t : Nat, e = .returned (.int .i64 (t : Int)) ∧ BitsIs (val l) t ∧ t ≤ 16000 ∧ Below w.heap.size w w' := by
  obtain ⟨n, hn⟩ : ∃ n, l.length = n + 1 := ⟨l.length - 1, by omega⟩
  have x1 := hc1 n (by omega)
  have htop := hl.2 h0
  have hv := val_split l n (by omega)
  have hlow := val_lt (l.take n) (fun d hd => hl.1 d (List.mem_of_mem_take hd))
  have htl := getD_lt hl.1 n
  rw [hn, Nat.add_sub_cancel] at htop
  rw [List.length_take, Nat.min_eq_left (by omega)] at hlow
  rw [List.drop_of_length_le (by omega)] at hv
  simp only [val, Nat.mul_zero, Nat.add_zero] at hv
  rw [hn] at hll ⊢
  generalize l[n]?.getD 0 = top at *
  have fin : ∀ c, top / 2 ^ c = 0 → (0 < c → top / 2 ^ (c - 1) ≠ 0) → BitsIs (val l) (16 * n + c) := by
    intro c hc1 hc2
    have hp := Nat.two_pow_pos c
    have a1 : top < 2 ^ c := by
      rcases Nat.lt_or_ge top (2 ^ c) with h | h
      · exact h
      · have := Nat.div_pos h hp; omega
    have hc0 : 0 < c := by
      rcases Nat.eq_zero_or_pos c with h | h
      · rw [h] at a1; simp at a1; omega
      · exact h
    have a2 : 2 ^ (c - 1) ≤ top := by
      have := hc2 hc0
      rcases Nat.lt_or_ge top (2 ^ (c - 1)) with h | h
      · rw [Nat.div_eq_of_lt h] at this; omega
      · exact h
    refine Or.inr ⟨by omega, ?_, ?_⟩
    · rw [show 16 * n + c - 1 = 16 * n + (c - 1) by omega, Nat.pow_add, ← pow16]
      have : 65536 ^ n * 2 ^ (c - 1) ≤ 65536 ^ n * top := Nat.mul_le_mul_left _ a2
      omega
    · rw [Nat.pow_add, ← pow16]
      have : 65536 ^ n * (top + 1) ≤ 65536 ^ n * 2 ^ c := Nat.mul_le_mul_left _ a1
      rw [Nat.mul_add] at this
      omega
  have FIN := (show Hid _ from fin)
  clear fin hv hlow hc1 hl h0
  have t0 : ((n : Int) + 1 == 0) = false := by rw [beq_eq_false_iff_ne]; omega
  go_enter Tryz.func66, Tryz.ntmps66
  go_wp2
  go_loopw [3, 4] (fun vn vx wr => ∃ c : Nat, vn = .int .i64 ((16 * n + c : Nat) : Int) ∧ vx = .int .u32 ((top / 2 ^ c : Nat) : Int) ∧ c ≤ 16 ∧ (0 < c → top / 2 ^ (c - 1) ≠ 0) ∧ Below w.heap.size w wr) (fun _ vx _ => (RowKit.intOf vx).toNat)
  case atStart => exact ⟨0, by simp, by simp, by omega, by omega, Below.refl _ _⟩
  case round =>
    obtain ⟨c, rfl, rfl, hc, hne, hbw⟩ := hrel
    obtain ⟨y, hy⟩ : ∃ y, y = top / 2 ^ c := ⟨_, rfl⟩
    have HY : Hid (y = top / 2 ^ c ∧ (0 < c → top / 2 ^ (c - 1) ≠ 0)) := ⟨hy, hne⟩
    obtain ⟨s, hs⟩ : ∃ s, s = 16 * n + c := ⟨_, rfl⟩
    have HS : Hid (s = 16 * n + c) := hs
    have hs2 : s ≤ 16000 := by omega
    have hy2 : y < 65536 := by
      have : top / 2 ^ c ≤ top := Nat.div_le_self _ _
      omega
    rw [← hy, ← hs]
    clear hne hs hy
    rcases Nat.eq_zero_or_pos y with h0 | h0
    · have HB : Hid (BitsIs (val l) s) := by
        have h1 := HY.out
        have h2 := FIN.out c (by omega) h1.2
        rw [HS.out]
        exact h2
      subst h0
      go_wp2
      go_ret
      exact ⟨s, rfl, HB.out, hs2, hbw⟩
    · go_wp2
      have h1 := HY.out.1
      have hc16 : c < 16 := by
        rcases Nat.lt_or_ge c 16 with h | h
        · exact h
        · have h2 : 2 ^ 16 ≤ 2 ^ c := Nat.pow_le_pow_right (by omega) h
          have h3 : top / 2 ^ c = 0 := Nat.div_eq_of_lt (by omega)
          omega
      have h4 : top / 2 ^ (c + 1) = y / 2 := by rw [Nat.pow_succ, ← Nat.div_div_eq_div_mul, ← h1]
      refine ⟨⟨c + 1, ?_, ?_, by omega, fun _ => by rw [Nat.add_sub_cancel, ← h1]; omega, hbw⟩, ?_⟩
      · rw [HS.out]; simp; omega
      · rw [h4]; rfl
      · simp only [RowKit.intOf]
        omega
/-- **bits.** -/
theorem bits_any (u : Value) (x : Nat) (w : World) (hx : NatIs w u x) (bx : x < pw 1000) :
    Calls Tryz.prog 66 #[u] w fun e w' => ∃ t : Nat, e = .returned (.int .i64 (t : Int)) ∧ BitsIs x t ∧ t ≤ 16000 ∧ Below w.heap.size w w' := by
  obtain ⟨l, hl1, hl2, rfl⟩ := hx
  have l1 := len_le hl2 bx
  rcases Nat.eq_zero_or_pos l.length with h0 | h0
  · have e1 : l = [] := List.eq_nil_of_length_eq_zero h0
    subst e1
    obtain ⟨a, c, rfl⟩ := hl1.slice
    clear hl1 hl2 bx l1
    go_enter Tryz.func66, Tryz.ntmps66
    go_wp2
    go_ret
    exact ⟨0, rfl, Or.inl ⟨rfl, rfl⟩, by omega, Below.refl _ _⟩
  · obtain ⟨b1, o1, c1, rfl, hc1⟩ := cell_of hl1 h0
    have hb1 : b1 < w.heap.size := by
      rcases hl1 with ⟨_, e⟩ | ⟨b, off, cap, e, _, hb, _⟩
      · rw [e] at h0; simp at h0
      · cases e; exact hb
    exact bits_1 l b1 o1 c1 hl2 h0 l1 w hb1 hc1
end Go.Proofs.YtellndmbllmjgaaGreatDoor
/- Quo. -/
set_option linter.unusedVariables false
namespace Go.Proofs.YtellndmbllmjgaaGreatDoor
open Go.RowKit Go.Shelf Go.Sort Fs Fl

/-- What holds ahead of each round of Quo. -/
def QuoR (w : World) (P q : Nat) (vp vn vi : Value) (wr : World) : Prop :=
  ∃ (k n cur : Nat), vi = .int .i64 ((k : Int) - 1) ∧ vn = .int .u64 (n : Int) ∧ NatIs wr vp cur ∧ k ≤ 61 ∧ P = n * q + cur ∧ cur < 2 ^ k * q ∧ n + 2 ^ k ≤ 2 ^ 61 ∧ Below w.heap.size w wr
theorem two_pw (i : Nat) (h : i ≤ 64) : 2 ^ i ≤ pw 4 := by
  have h1 : 2 ^ i ≤ 2 ^ 64 := Nat.pow_le_pow_right (by omega) h
  exact Nat.le_trans h1 (Nat.le_of_eq (by decide))
theorem pw_lt_mul {a b m n k : Nat} (h1 : a ≤ pw m) (h2 : b < pw n) (h : m + n ≤ k) : a * b < pw k := by
  have h3 : a * b ≤ pw m * b := Nat.mul_le_mul_right _ h1
  have h4 : pw m * b < pw m * pw n := (Nat.mul_lt_mul_left (pw_pos m)).2 h2
  rw [← pw_add] at h4
  exact Nat.lt_of_le_of_lt h3 (Nat.lt_of_lt_of_le h4 (pw_mono h))
theorem pw_strict {m n : Nat} (h : m < n) : pw m < pw n := Nat.pow_lt_pow_right (by omega) h
theorem pw_lt {a m n : Nat} (h1 : a < pw m) (h : m ≤ n) : a < pw n := Nat.lt_of_lt_of_le h1 (pw_mono h)
theorem cmp_ge {c : Int} {x y : Nat} (h : CmpIs c x y) (hle : y ≤ x) : 0 ≤ c := by
  have := h.2
  omega
theorem cmp_neg {c : Int} {x y : Nat} (h : CmpIs c x y) (hle : x < y) : c < 0 := h.2.2 hle
theorem NatIs.drewN {w : World} {v : Value} {x n : Nat} (h : NatIs w v x) : NatIs (w.drewN n) v x := h
set_option maxRecDepth 100000 in
set_option maxHeartbeats 2000000 in
/-- **Quo.** -/
theorem quo_any (u v : Value) (P q : Nat) (w : World) (hu : NatIs w u P) (hv : NatIs w v q) (bP : P < pw 900) (bq : q < pw 900) (hq : 0 < q) (hlt : P < 2 ^ 61 * q) :
    Calls Tryz.prog 70 #[u, v] w fun e w' => ∃ r, e = .returned (.tuple #[.int .u64 ((P / q : Nat) : Int), r]) ∧ NatIs w' r (P % q) ∧ Below w.heap.size w w' := by
  have HB : Hid (P < pw 900 ∧ q < pw 900 ∧ P < 2 ^ 61 * q) := ⟨bP, bq, hlt⟩
  clear bP bq hlt
  go_enter Tryz.func70, Tryz.ntmps70
  go_wp2
  go_loopw [0, 6, 7] (fun vp vn vi wr => QuoR w P q vp vn vi wr) (fun _ _ vi _ => (RowKit.intOf vi + 1).toNat)
  case atStart => exact ⟨61, 0, P, by simp, rfl, hu, by omega, by omega, HB.out.2.2, by omega, Below.refl _ _⟩
  case round =>
    obtain ⟨k, n, cur, rfl, rfl, hcur, hk, hP, hc, hn, hbw⟩ := hrel
    have HC : Hid (P = n * q + cur ∧ cur < 2 ^ k * q ∧ n + 2 ^ k ≤ 2 ^ 61) := ⟨hP, hc, hn⟩
    have hn64 : n < 18446744073709551616 := by have := Nat.two_pow_pos k; omega
    clear hP hc hn hu
    rcases Nat.eq_zero_or_pos k with h0 | h0
    · subst h0
      have HF : Hid (n = P / q ∧ cur = P % q) := by
        show n = P / q ∧ cur = P % q
        obtain ⟨a1, a2, _⟩ := HC.out
        rw [Nat.pow_zero, Nat.one_mul] at a2
        rw [a1, Nat.mul_comm n, Nat.mul_add_div hq, Nat.div_eq_of_lt a2, Nat.mul_add_mod, Nat.mod_eq_of_lt a2]
        exact ⟨rfl, rfl⟩
      go_wp2
      go_ret2
      rw [← HF.out.1, ← HF.out.2]
      exact ⟨_, rfl, hcur, hbw⟩
    · obtain ⟨i, rfl⟩ : ∃ i, k = i + 1 := ⟨k - 1, by omega⟩
      have ej : ((i + 1 : Nat) : Int) - 1 = (i : Int) := by omega
      have hi60 : i ≤ 60 := by omega
      have cp : Calls Tryz.prog 64 #[.int .u64 2, .int .i64 (i : Int)] wr fun e w' => ∃ v, e = .returned v ∧ NatIs w' v (2 ^ i) ∧ Below wr.heap.size wr w' := by
        have := power_any 2 (i : Int) (by omega) (by omega) (by omega) (by omega) (Nat.lt_of_le_of_lt (two_pw _ (by rw [Int.toNat_natCast]; omega)) (pw_strict (by omega))) wr
        rw [Int.toNat_natCast] at this
        exact this
      have hvr := hv.below hbw
      have bcur : cur < pw 900 := by
        have := HC.out.1
        have h9 := HB.out.1
        have : cur ≤ P := by rw [HC.out.1]; exact Nat.le_add_left _ _
        exact Nat.lt_of_le_of_lt this h9
      have cm := fun (w1 : World) (x : Value) (hx : NatIs w1 x (2 ^ i)) (hb : Below wr.heap.size wr w1) => mul_any x v (2 ^ i) q w1 hx (hvr.below hb) (pw_lt (Nat.lt_of_le_of_lt (two_pw i (by omega)) (pw_strict (show 4 < 5 by omega))) (by omega)) (pw_lt HB.out.2.1 (by omega))
      have cc := fun (w1 : World) (x : Value) (hx : NatIs w1 x (2 ^ i * q)) (hb : Below wr.heap.size wr w1) => cmp_any u0 x cur (2 ^ i * q) w1 (hcur.below hb) hx (pw_lt bcur (by omega)) (pw_lt_mul (two_pw i (by omega)) HB.out.2.1 (by omega))
      have cs := fun (w1 : World) (x : Value) (hx : NatIs w1 x (2 ^ i * q)) (hb : Below wr.heap.size wr w1) (hle : 2 ^ i * q ≤ cur) => sub_any u0 x cur (2 ^ i * q) w1 (hcur.below hb) hx (pw_lt bcur (by omega)) hle
      have CM := (show Hid _ from cm)
      have CC := (show Hid _ from cc)
      have CS := (show Hid _ from cs)
      rw [ej]
      clear cm cc cs bcur hvr
      obtain ⟨S, hS⟩ : ∃ S, S = 2 ^ i := ⟨_, rfl⟩
      have hS2 : S ≤ 1152921504606846976 := by
        rw [hS]
        exact Nat.le_trans (Nat.pow_le_pow_right (by omega) hi60) (Nat.le_of_eq (by decide))
      by_cases hge : S * q ≤ cur
      · have HN : Hid (n + S + S ≤ 2 ^ 61 ∧ cur - S * q < 2 ^ i * q ∧ P = (n + S) * q + (cur - S * q)) := by
          obtain ⟨a1, a2, a3⟩ := HC.out
          rw [Nat.pow_succ, ← hS] at a2 a3
          refine ⟨by omega, ?_, ?_⟩
          · rw [← hS]
            have : S * 2 * q = S * q + S * q := by grind
            omega
          · rw [Nat.add_mul]
            omega
        have HS : Hid (S = 2 ^ i) := hS
        have hadd : n + S < 18446744073709551616 := by have := HN.out.1; omega
        have HGE : Hid (S * q ≤ cur) := hge
        clear hge hS
        go_wp2_with (first | (go_at_call 64; refine cp.mono ?_; rintro e w1 ⟨x1, rfl, hx1, hw1⟩; have cm1 := CM.out w1 x1 hx1 hw1; clear cp) | (go_at_call 65; refine cm1.mono ?_; rintro e w2 ⟨x2, rfl, hx2, hw2⟩; have cc1 := CC.out w2 x2 hx2 (hw1.trans (hw2.mono hw1.size)); clear cm1) | (go_at_call 67; refine cc1.mono ?_; rintro e w3 ⟨c, rfl, hcmp, nn, rfl⟩; have kc : (0 : Int) ≤ c := cmp_ge hcmp (HS.out ▸ HGE.out); have cs1 := CS.out (w2.drewN nn) x2 hx2.drewN (below_drewN (hw1.trans (hw2.mono hw1.size))) (HS.out ▸ HGE.out); clear cc1 hcmp) | (go_at_call 68; refine cs1.mono ?_; rintro e w4 ⟨x4, rfl, hx4, hw4⟩; clear cs1))
        have hw2' := hw1.trans (hw2.mono hw1.size)
        have hw3' : Below wr.heap.size wr (w2.drewN nn) := below_drewN hw2'
        have hw5 := hw3'.trans (hw4.mono hw3'.size)
        have e1 : IntKind.u64.wrap ((n : Int) + IntKind.u64.wrap (2 ^ i)) = ((n + S : Nat) : Int) := by
          have e0 : (2 : Int) ^ i = (S : Int) := by rw [HS.out, Int.natCast_pow]; rfl
          rw [e0, IntKind.wrap_u64, IntKind.wrap_u64]
          omega
        rw [e1]
        obtain ⟨b1, b2, b3⟩ := HN.out
        rw [← HS.out] at hx4 b2
        refine ⟨⟨i, n + S, cur - S * q, rfl, rfl, hx4, by omega, b3, by rw [← HS.out]; exact b2, by rw [← HS.out]; omega, hbw.trans (hw5.mono hbw.size)⟩, ?_⟩
        simp only [RowKit.intOf]
        omega
      · have HS : Hid (S = 2 ^ i) := hS
        have HGE : Hid (cur < S * q) := Nat.lt_of_not_le hge
        clear hge hS
        go_wp2_with (first | (go_at_call 64; refine cp.mono ?_; rintro e w1 ⟨x1, rfl, hx1, hw1⟩; have cm1 := CM.out w1 x1 hx1 hw1; clear cp) | (go_at_call 65; refine cm1.mono ?_; rintro e w2 ⟨x2, rfl, hx2, hw2⟩; have cc1 := CC.out w2 x2 hx2 (hw1.trans (hw2.mono hw1.size)); clear cm1) | (go_at_call 67; refine cc1.mono ?_; rintro e w3 ⟨c, rfl, hcmp, nn, rfl⟩; have kc : ¬ (0 : Int) ≤ c := Int.not_le.2 (cmp_neg hcmp (HS.out ▸ HGE.out)); clear cc1 hcmp))
        have hw2' := hw1.trans (hw2.mono hw1.size)
        have hw3' : Below wr.heap.size wr (w2.drewN nn) := below_drewN hw2'
        obtain ⟨a1, a2, a3⟩ := HC.out
        have hge := HGE.out
        rw [Nat.pow_succ, ← HS.out] at a3
        refine ⟨⟨i, n, cur, rfl, rfl, (hcur.below hw2').drewN, by omega, a1, by rw [← HS.out]; exact hge, by rw [← HS.out]; omega, hbw.trans (hw3'.mono hbw.size)⟩, ?_⟩
        simp only [RowKit.intOf]
        omega
end Go.Proofs.YtellndmbllmjgaaGreatDoor
/- The walk of ftoa64 and FormatFloat, at a float above 0, 'e', the fewest digits. -/
set_option linter.unusedVariables false
namespace Go.Proofs.YtellndmbllmjgaaGreatDoor
open Go.RowKit Go.Shelf Go.Sort Fs

theorem Tryz.tobits (b : Nat) (w : World) : (callFunc 212 #[.float .f64 b]).run Tryz.prog w = .ok (.value (.int .u64 b)) w := by
  rw [run_callFunc_extern (P := Tryz.prog) (f := 212) (e := Extern.MathFloatBits.float64bits) Tryz.func212 (by kernel_rfl) (by kernel_rfl) (by kernel_rfl) (by kernel_rfl)]
  rfl
/-- 'var buf [32]byte', as the walk lays it. -/
def zeros32 : Array Value := #[Value.int .u8 0, Value.int .u8 0, Value.int .u8 0, Value.int .u8 0, Value.int .u8 0, Value.int .u8 0, Value.int .u8 0, Value.int .u8 0, Value.int .u8 0, Value.int .u8 0, Value.int .u8 0, Value.int .u8 0, Value.int .u8 0, Value.int .u8 0, Value.int .u8 0, Value.int .u8 0, Value.int .u8 0, Value.int .u8 0, Value.int .u8 0, Value.int .u8 0, Value.int .u8 0, Value.int .u8 0, Value.int .u8 0, Value.int .u8 0, Value.int .u8 0, Value.int .u8 0, Value.int .u8 0, Value.int .u8 0, Value.int .u8 0, Value.int .u8 0, Value.int .u8 0, Value.int .u8 0]
theorem zeros32_eq : zeros32 = Array.replicate 32 (Value.int .u8 0) := rfl
theorem zeros32_at (j : Nat) (h : j < 32) : zeros32[j]? = some (.int .u8 0) := by
  rw [zeros32_eq, Array.getElem?_replicate, if_pos h]
set_option maxRecDepth 100000 in
set_option maxHeartbeats 1000000 in
theorem ftoa_norm (r M e sh m : Nat) (z ex mt E : Int) (v : Value) (base : Nat) (hz : (r : Int) = z) (w : World)
    (t0 : (z / 9223372036854775808 != 0) = false)
    (hex : bits .and .i64 (wrap64 (z / 4503599627370496)) 2047 = ex) (hex1 : (ex == 2047) = false) (hex0 : (ex == 0) = false) (hexa : 0 ≤ ex) (hexb : ex ≤ 2046)
    (hmt : bits .and .u64 z 4503599627370495 = mt) (hor : bits .or .u64 mt 4503599627370496 = (M : Int)) (hM0 : ((M : Int) == 0) = false) (hMp : 0 < M)
    (hsh0 : 11 ≤ sh) (hsh1 : sh ≤ 63) (hm : IntKind.u64.wrap ((M : Int) * 2 ^ sh) = (m : Int)) (hE : ex + -1023 - (sh : Int) - 52 = E)
    (c215 : ∀ w, Calls Tryz.prog 216 #[.int .u64 (M : Int)] w fun e w' => e = .returned (.int .i64 (64 - (sh : Int))) ∧ w' = w)
    (c224 : ∀ w, Laid w → Calls Tryz.prog 225 #[.int .u64 (m : Int), .int .i64 E] w fun r w' => (∃ d i : Nat, Short M e d i ∧ d < 1152921504606846976 ∧ i < 800 ∧ r = .returned (.tuple #[.int .u64 (d : Int), .int .i64 ((i : Int) - 400)])) ∧ Below w.heap.size w w')
    (hlaid : Laid w) (hown : w.ownsRow base 5 1 v 0 []) (hb : base ≤ w.heap.size) :
    Calls Tryz.prog 165 #[v, .float .f64 r, .int .u8 101, .int .i64 (-1)] w fun rr w' => ∃ v' d0 J, Fs.Told M e d0 J ∧ 0 < d0 ∧ d0 < 1152921504606846976 ∧ J < 1000 ∧ rr = .returned v' ∧ w'.ownsRow base 5 1 v' (fmtS (decN d0) ((Lib.nDigits d0 : Int) + (J : Int) - 401)).length ((fmtS (decN d0) ((Lib.nDigits d0 : Int) + (J : Int) - 401)).map bv) ∧ Below base w w' := by
  have x1 : ∀ w, (callFunc 212 #[.float .f64 r]).run Tryz.prog w = .ok (.value (.int .u64 z)) w := fun w => by rw [Tryz.tobits, hz]
  have hs : 64 - (64 - (sh : Int)) = (sh : Int) := by omega
  have HLA : Hid (Laid w) := hlaid
  clear hz hlaid
  go_enter Tryz.func165, Tryz.ntmps165
  go_wp2_with (first | go_in)
  go_quiet (fail)
  go_wp2_with (first | (go_at_call 216; refine (c215 _).mono ?_; rintro e w' ⟨rfl, rfl⟩) | (go_at_call 225; fail))
  have hbz : Below w.heap.size w ((w.drewN nq).alloc (.cells zeros32 234)) := (below_drewN (Below.refl _ _)).alloc (Nat.le_refl _) _
  have hzb : ((w.drewN nq).alloc (.cells zeros32 234)).heap[w.heap.size]? = some (Obj.cells zeros32 234 (0, 0)) := heap_alloc_new (w.drewN nq) (.cells zeros32 234)
  have hzs : ((w.drewN nq).alloc (.cells zeros32 234)).heap.size = w.heap.size + 1 := by simp
  obtain ⟨W0, hW0⟩ : ∃ W0, W0 = (w.drewN nq).alloc (.cells zeros32 234) := ⟨_, rfl⟩
  rw [← hW0] at hbz hzb hzs
  change Calls _ _ _ ((w.drewN nq).alloc (.cells zeros32 234)) _
  rw [← hW0]
  clear hW0
  refine (c224 W0 (HLA.out.below hbz)).mono ?_
  rintro ee w1 ⟨⟨d, i, hS, hd, hi, rfl⟩, hbel⟩
  rw [hzs] at hbel
  have hb1 : Below w.heap.size w w1 := hbz.trans (hbel.mono (by omega))
  have hz1 : w1.heap[w.heap.size]? = some (Obj.cells zeros32 234 (0, 0)) := (hbel.block _ (by omega)).trans hzb
  obtain ⟨d0, t, hdt, hd0⟩ := strip d d (Nat.le_refl _) hS.pos
  have hd00 : 0 < d0 := by
    rcases Nat.eq_zero_or_pos d0 with h | h
    · rw [h] at hd0; simp at hd0
    · exact h
  have hnd : Lib.nDigits d = Lib.nDigits d0 + t := by rw [hdt]; exact nDigits_shift d0 hd00 t
  have hn19 : Lib.nDigits d ≤ 19 := nDigits_le d 19 (by omega) (by omega)
  obtain ⟨K, hK⟩ : ∃ K, Lib.nDigits d0 = K + 1 := ⟨Lib.nDigits d0 - 1, by have := Lib.nDigits_pos d0; omega⟩
  have c218 := Tryz.internal_strconv_numDigits d hS.pos (by omega) w1.drew (show Lib.TabIs Tryz.prog w1 _ _ _ from (HLA.out.below hb1).p10)
  have hHo : Holds encB w1 w.heap.size 0 (Array.replicate (Lib.nDigits d) (0 : UInt8)) := by
    intro j hj
    rw [Array.size_replicate] at hj
    have h32 : zeros32[j]? = some (.int .u8 0) := zeros32_at j (by omega)
    refine ⟨?_, ?_⟩
    · simp only [World.cell?, hz1, Nat.zero_add]
      rw [h32]
      have : (Array.replicate (Lib.nDigits d) (0 : UInt8))[j]! = 0 := by simp [hj]
      rw [this]
      rfl
    · simp [World.frozen?, hz1]
  have c217 := setDigits_any w.heap.size d d0 t (Lib.nDigits d) ((i : Int) - 400) hS.pos (by omega) hdt hd0 rfl (by omega) (by omega) (by omega) (by omega) w1.drew hHo
  generalize Lib.nDigits d = nd at *
  obtain ⟨x, hx⟩ : ∃ x : Int, x = (nd : Int) + (i : Int) - 401 := ⟨_, rfl⟩
  have ekt : ((nd - t : Nat) : Int) = (K : Int) + 1 := by omega
  have edp : (nd : Int) + ((i : Int) - 400) = x + 1 := by omega
  rw [ekt, edp] at c217
  have hK31 : K ≤ 30 := by omega
  have hxa : -1000 < x := by omega
  have hxb : x < 1000 := by omega
  have HX : Hid (x = (nd : Int) + (i : Int) - 401) := hx
  clear hx ekt edp
  have HS : Hid (Short M e d i) := hS
  have HDT : Hid (d = d0 * 10 ^ t) := hdt
  have HND : Hid (nd = Lib.nDigits d0 + t) := hnd
  have HK : Hid (Lib.nDigits d0 = K + 1) := hK
  clear hdt hnd hK
  have HB : Hid (Below w.heap.size w w1) := hb1
  have HZ : Hid (w1.heap[w.heap.size]? = some (Obj.cells zeros32 234 (0, 0))) := hz1
  have HHo : Hid (Holds encB w1.drew w.heap.size 0 (Array.replicate nd (0 : UInt8))) := hHo
  clear hS hb1 hz1 hbel hzb hbz hzs hHo
  go_wp2_with (first | (go_at_call 215; fail))
  go_region_with (first | (go_at_call 219; go_fit c218; rintro e w' ⟨rfl, rfl⟩) | (go_at_call 218; go_fit c217; rintro e w' ⟨rfl, n, v', dk, rfl, hF⟩))
  go_wp2_with (first | (go_at_call 215; fail))
  have hb2 : Below w.heap.size w ((putRow encB w1.drew w.heap.size 0 dk).drewN n) := below_drewN (below_putRow dk HB.out.drew (Nat.le_refl _))
  obtain ⟨C, hC⟩ := heap_putRow (w := w1.drew) dk HZ.out
  have hC2 : ((putRow encB w1.drew w.heap.size 0 dk).drewN n).heap[w.heap.size]? = some (Obj.cells C 234 (0, 0)) := hC
  have hnd' : nd = K + 1 + t := by have := HND.out; have := HK.out; omega
  have hcs : ∀ (j : Nat) c, (decN d0)[j]? = some c → C[j]? = some (bv c) := by
    intro j c hj
    have hjl : j < K + 1 := by
      have := (List.getElem?_eq_some_iff.1 hj).1
      rw [decN_length, HK.out] at this
      exact this
    rw [decN_at d0 j (by rw [HK.out]; exact hjl)] at hj
    have h1 := cell?_putRow encB w1.drew w.heap.size 0 _ dk HHo.out (by rw [hF.size, Array.size_replicate]) j (by rw [hF.size]; omega)
    have h2 : (putRow encB w1.drew w.heap.size 0 dk).cell? ⟨w.heap.size, 0 + j, none⟩ = C[j]? := by
      simp [World.cell?, hC]
    rw [← h2, h1, hF.done j (Nat.zero_le _) (by omega)]
    have h3 : encB (Lib.dg d (nd - 1 - j)) = bv c := by
      show Value.int .u8 _ = Value.int .u8 _
      rw [dg_toNat, HDT.out, hnd', digit_shift d0 t (K + 1) j hjl]
      rw [HK.out] at hj
      rw [Option.some.inj hj]
    rw [h3]
  refine (fmtE_any base w.heap.size K v C (0, 0) (decN d0) (by rw [decN_length, HK.out]) (by omega) x hxa hxb _ (ownsRow_later hown hb2) (Nat.le_trans hb hb2.size) hC2 hcs).mono ?_
  rintro ee w3 ⟨v', rfl, hown3, hbe⟩
  go_wp2
  go_ret
  have hxe : x = (Lib.nDigits d0 : Int) + ((i + t : Nat) : Int) - 401 := by have := HX.out; have := HK.out; omega
  rw [hxe] at hown3
  have hd0l : d0 ≤ d := by
    have := HDT.out
    have h1 : d0 * 1 ≤ d0 * 10 ^ t := Nat.mul_le_mul_left _ (Nat.pow_pos (by omega))
    omega
  exact ⟨_, d0, i + t, told_of_short hMp HS.out HDT.out hd0, hd00, by omega, by omega, rfl, hown3, (hb2.mono hb).trans hbe⟩
end Go.Proofs.YtellndmbllmjgaaGreatDoor
