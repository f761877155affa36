/- A row that is written in place; what a product's rows count. -/
import Derived.Test.YtellndmbllmjgaaGreatDoorBnA
set_option linter.unusedVariables false
namespace Go.Proofs.YtellndmbllmjgaaGreatDoor
open Go.RowKit Go.Shelf Go.Sort Fs Fl

theorem val_set : ∀ (L : List Nat) (j d : Nat), j < L.length → val (L.set j d) + 65536 ^ j * L[j]?.getD 0 = val L + 65536 ^ j * d
  | [], j, d, h => absurd h (by simp)
  | a :: L, 0, d, h => by
    simp only [List.set_cons_zero, val, Nat.pow_zero, Nat.one_mul, List.getElem?_cons_zero, Option.getD_some]
    omega
  | a :: L, j + 1, d, h => by
    have ih := val_set L j d (by simpa using h)
    simp only [List.set_cons_succ, val, List.getElem?_cons_succ, Nat.pow_succ]
    generalize L[j]?.getD 0 = x at *
    generalize val (L.set j d) = y at *
    generalize val L = z at *
    generalize 65536 ^ j = P at *
    grind
/-- Block g holds the digits L. -/
def OutIs (w : World) (g : Nat) (L : List Nat) : Prop := w.heap[g]? = some (Obj.cells (L.map dv).toArray 108 (0, 0))
theorem OutIs.cell {w : World} {g : Nat} {L : List Nat} (h : OutIs w g L) (j : Nat) (hj : j < L.length) : w.cell? ⟨g, j, none⟩ = some (.int .u32 ((L[j]?.getD 0 : Nat) : Int)) := by
  have : (L.map dv).toArray[j]? = some (dv (L[j]?.getD 0)) := by
    rw [List.getElem?_toArray, List.getElem?_map, List.getElem?_eq_getElem hj]
    rfl
  have h' : w.heap[g]? = some (Obj.cells (L.map dv).toArray 108 (0, 0)) := h
  have e : w.cell? ⟨g, j, none⟩ = (L.map dv).toArray[j]? := by
    unfold World.cell?
    simp only [h']
    rfl
  rw [e]
  exact this
theorem OutIs.frozen {w : World} {g : Nat} {L : List Nat} (h : OutIs w g L) (j : Nat) : w.frozen? ⟨g, j, none⟩ = false := by
  simp [World.frozen?, show w.heap[g]? = _ from h]
theorem OutIs.set {w : World} {g : Nat} {L : List Nat} (h : OutIs w g L) (j d : Nat) : OutIs (w.setCell ⟨g, j, none⟩ (.int .u32 (d : Int))) g (L.set j d) := by
  unfold OutIs
  rw [setCell_eq]
  simp only [mapBlock, Array.getElem?_modify, if_true]
  rw [show w.heap[g]? = _ from h]
  simp [onCells, List.map_set, dv]
theorem OutIs.drewN {w : World} {g n : Nat} {L : List Nat} (h : OutIs w g L) : OutIs (w.drewN n) g L := h
theorem OutIs.row {w : World} {g cap : Nat} {L : List Nat} (h : OutIs w g L) (hc : L.length ≤ cap) (hm : cap ≤ 9223372036854775807) : Row32 w (.slice (some ⟨g, 0, none⟩) L.length cap) L := by
  refine .inr ⟨g, 0, cap, rfl, ⟨hc, hm⟩, lt_of_get h, fun j hj => ?_⟩
  rw [Nat.zero_add]
  exact h.cell j hj
theorem set_lt {L : List Nat} {j d : Nat} (h : ∀ x ∈ L, x < 65536) (hd : d < 65536) : ∀ x ∈ L.set j d, x < 65536 := by
  intro x hx
  rcases List.mem_or_eq_of_mem_set hx with h1 | h1
  · exact h x h1
  · rw [h1]; exact hd
theorem take_val (m : List Nat) (k : Nat) (h : k < m.length) : val (m.take (k + 1)) = val (m.take k) + 65536 ^ k * m[k]?.getD 0 := by
  rw [List.take_succ_eq_append_getElem h, val_append, List.length_take, Nat.min_eq_left (Nat.le_of_lt h), List.getElem?_eq_getElem h]
  simp [val]
/-- One digit more of a product's row. -/
theorem mul_in {L0 L m : List Nat} {i k a c d q V : Nat} (hj : i + k < L.length) (hk : k < m.length) (hv : val L + 65536 ^ (i + k) * c = V + 65536 ^ i * (a * val (m.take k))) (hx : d + 65536 * q = L[i + k]?.getD 0 + a * m[k]?.getD 0 + c) :
    val (L.set (i + k) d) + 65536 ^ (i + (k + 1)) * q = V + 65536 ^ i * (a * val (m.take (k + 1))) := by
  have h1 := val_set L (i + k) d hj
  rw [take_val m k hk]
  have e1 : 65536 ^ (i + (k + 1)) = 65536 ^ (i + k) * 65536 := by rw [← Nat.add_assoc, Nat.pow_succ]
  have e2 : 65536 ^ (i + k) = 65536 ^ i * 65536 ^ k := Nat.pow_add ..
  rw [e1]
  generalize L[i + k]?.getD 0 = x at *
  generalize m[k]?.getD 0 = b at *
  generalize val (L.set (i + k) d) = y at *
  generalize val L = z at *
  generalize val (m.take k) = t at *
  have e3 : 65536 ^ (i + k) * (d + 65536 * q) = 65536 ^ (i + k) * (x + a * b + c) := by rw [hx]
  rw [e2] at *
  generalize 65536 ^ i = P at *
  generalize 65536 ^ k = R at *
  grind
/-- The row's end. -/
theorem mul_out {L l m : List Nat} {i c V : Nat} (hi : i < l.length) (hj : i + m.length < L.length) (h0 : L[i + m.length]?.getD 0 = 0) (hv : val L + 65536 ^ (i + m.length) * c = val (l.take i) * val m + 65536 ^ i * (l[i]?.getD 0 * val (m.take m.length))) :
    val (L.set (i + m.length) c) = val (l.take (i + 1)) * val m := by
  have h1 := val_set L (i + m.length) c hj
  rw [h0, Nat.mul_zero, Nat.add_zero] at h1
  rw [h1, hv, take_val l i hi, List.take_length]
  generalize val (l.take i) = x
  generalize val m = y
  grind
end Go.Proofs.YtellndmbllmjgaaGreatDoor
/- Mul. -/
set_option linter.unusedVariables false
namespace Go.Proofs.YtellndmbllmjgaaGreatDoor
open Go.RowKit Go.Shelf Go.Sort Fs Fl

theorem out_of_own {w : World} {base g n : Nat} {xs : List Value} (h : w.ownsRow base 108 1 (.slice (some ⟨g, 0, none⟩) n n) n xs) (hx : xs = (List.replicate n 0).map dv) : OutIs w g (List.replicate n 0) := by
  rcases h.2 with ⟨e, _⟩ | ⟨g', cap, cur, e, _, hg, hle, _, hsz, htk⟩
  · cases e
  · cases e
    unfold OutIs
    rw [hg]
    have : cur.toList = xs := by
      rw [← htk, List.take_of_length_le (by rw [Array.length_toList, hsz]; exact Nat.le_refl _)]
    have h2 : cur = xs.toArray := by rw [← this]
    rw [h2, hx]
theorem made_zero (n : Nat) : (madeCells (Value.int .u32 0).cells (n * 1)).toList = (List.replicate n 0).map dv := by
  simp only [madeCells, Value.cells, Nat.mul_one]
  apply List.ext_getElem?
  intro i
  simp [List.getElem?_replicate, Nat.mod_one]
  split <;> simp_all [dv]
/-- What holds ahead of each of Mul's rows. -/
def MulR (w : World) (l m : List Nat) (n : Nat) (vi : Value) (wr : World) : Prop :=
  ∃ (i : Nat) (L : List Nat), vi = .int .i64 (i : Int) ∧ i ≤ l.length ∧ OutIs wr w.heap.size L ∧ L.length = n ∧ (∀ d ∈ L, d < 65536) ∧ (∀ j, i + m.length ≤ j → L[j]?.getD 0 = 0) ∧ val L = val (l.take i) * val m ∧ Below w.heap.size w wr
/-- And within a row. -/
def MulI (w : World) (l m : List Nat) (n i : Nat) (vc vk : Value) (wr : World) : Prop :=
  ∃ (k c : Nat) (L : List Nat), vk = .int .i64 (k : Int) ∧ vc = .int .u32 (c : Int) ∧ c < 65536 ∧ k ≤ m.length ∧ OutIs wr w.heap.size L ∧ L.length = n ∧ (∀ d ∈ L, d < 65536) ∧ (∀ j, i + m.length ≤ j → L[j]?.getD 0 = 0) ∧ val L + 65536 ^ (i + k) * c = val (l.take i) * val m + 65536 ^ i * (l[i]?.getD 0 * val (m.take k)) ∧ Below w.heap.size w wr
set_option maxRecDepth 100000 in
set_option maxHeartbeats 2000000 in
theorem mul_11 (l m : List Nat) (b1 o1 c1 b2 o2 c2 : Nat) (hl : ∀ d ∈ l, d < 65536) (hm : ∀ d ∈ m, d < 65536) (hll : l.length ≤ 1000) (hml : m.length ≤ 1000) (w : World)
    (hb1 : b1 < w.heap.size) (hc1 : ∀ j, j < l.length → w.cell? ⟨b1, o1 + j, none⟩ = some (.int .u32 ((l[j]?.getD 0 : Nat) : Int)))
    (hb2 : b2 < w.heap.size) (hc2 : ∀ j, j < m.length → w.cell? ⟨b2, o2 + j, none⟩ = some (.int .u32 ((m[j]?.getD 0 : Nat) : Int))) :
    Calls Tryz.prog 65 #[.slice (some ⟨b1, o1, none⟩) l.length c1, .slice (some ⟨b2, o2, none⟩) m.length c2] w fun e w' => ∃ v, e = .returned v ∧ NatIs w' v (val l * val m) ∧ Below w.heap.size w w' := by
  obtain ⟨i0, hi, hz0, hz1, hz2⟩ := info_parts info108
  obtain ⟨n, hn⟩ : ∃ n : Nat, (l.length : Int) + (m.length : Int) = (n : Int) := ⟨l.length + m.length, by omega⟩
  have HN : Hid (n = l.length + m.length) := (by omega : n = l.length + m.length)
  have hn2 : n ≤ 2000 := by omega
  go_enter Tryz.func65, Tryz.ntmps65
  go_wp2_with (first | (refine wpList_make_full _ rfl _ _ 53 rfl w.heap.size 108 i0 (.int .u32 0) 1 Tryz.underlying53 hi hz0 hz1 .i64 .i64 _ _ n rfl rfl rfl rfl (by rw [hz2]; omega) (by unfold maxLen; omega) (Nat.le_refl _) ?_; intro w1 hown0 hg0))
  have hb0 : Below w.heap.size w w1 := (Below.refl _ _).grown hg0 (Nat.le_refl _) (fun k e => by cases e)
  have hO0 := out_of_own hown0 (made_zero n)
  clear hown0 hg0
  go_loopw [6] (fun vi wr => MulR w l m n vi wr) (fun vi _ => l.length - (RowKit.intOf vi).toNat)
  case atStart =>
    refine ⟨0, List.replicate n 0, rfl, Nat.zero_le _, hO0, by simp, ?_, ?_, ?_, hb0⟩
    · intro d hd
      rw [List.eq_of_mem_replicate hd]
      omega
    · intro j _
      rw [List.getElem?_replicate]
      split <;> rfl
    · rw [List.take_zero, val_zero _ (fun d hd => List.eq_of_mem_replicate hd)]
      simp [val]
  case round =>
    obtain ⟨i, L, rfl, hil, hO, hLn, hLd, hLz, hLv, hbw⟩ := hrel
    have HO : Hid (OutIs wr w.heap.size L) := hO
    have HL : Hid (L.length = n ∧ (∀ d ∈ L, d < 65536) ∧ (∀ j, i + m.length ≤ j → L[j]?.getD 0 = 0) ∧ val L = val (l.take i) * val m) := ⟨hLn, hLd, hLz, hLv⟩
    clear hO hLn hLd hLz hLv hO0 hb0
    by_cases g1 : i < l.length
    · have k1 : (i : Int) < (l.length : Int) := by omega
      go_wp2
      go_loopw [7, 8] (fun vc vk wi => MulI w l m n i vc vk wi) (fun _ vk _ => m.length - (RowKit.intOf vk).toNat)
      case atStart =>
        obtain ⟨a1, a2, a3, a4⟩ := HL.out
        exact ⟨0, 0, L, rfl, rfl, by omega, Nat.zero_le _, HO.out, a1, a2, a3, by simp [val, a4], hbw⟩
      case round =>
        obtain ⟨k, c, L2, rfl, rfl, hc, hk, hO2, hn2', hd2, hz2', hv2, hbw2⟩ := hrel
        by_cases g2 : k < m.length
        · have k2 : (k : Int) < (m.length : Int) := by omega
          have la := getD_lt hl i
          have lb := getD_lt hm k
          have lc := getD_lt hd2 (i + k)
          have hik : i + k < L2.length := by have := HN.out; omega
          have y1 := (hbw2.cell (p := ⟨b1, o1 + i, none⟩) hb1).trans (hc1 i g1)
          have y2 := (hbw2.cell (p := ⟨b2, o2 + k, none⟩) hb2).trans (hc2 k g2)
          have y3 := hO2.cell (i + k) hik
          have y4 := hO2.frozen (i + k)
          obtain ⟨sk, hsk⟩ : ∃ sk, sk = i + k := ⟨_, rfl⟩
          have STEP := fun d q (hx : d + 65536 * q = L2[i + k]?.getD 0 + l[i]?.getD 0 * m[k]?.getD 0 + c) => mul_in (L0 := []) hik g2 hv2 hx
          have HST := (show Hid _ from STEP)
          have HO2 : Hid (OutIs wr w.heap.size L2 ∧ L2.length = n ∧ (∀ d ∈ L2, d < 65536) ∧ (∀ j, i + m.length ≤ j → L2[j]?.getD 0 = 0)) := ⟨hO2, hn2', hd2, hz2'⟩
          have hab : l[i]?.getD 0 * m[k]?.getD 0 ≤ 65535 * 65535 := Nat.mul_le_mul (by omega) (by omega)
          clear STEP hO2 hn2' hd2 hz2' hv2 hc1 hc2
          generalize hga : l[i]?.getD 0 = a at *
          have HA : Hid (l[i]?.getD 0 = a) := hga
          clear hga
          generalize m[k]?.getD 0 = b at *
          generalize L2[i + k]?.getD 0 = o at *
          obtain ⟨p, hp⟩ : ∃ p, p = a * b := ⟨_, rfl⟩
          have e0 : (a : Int) * (b : Int) = (p : Int) := by rw [hp, Int.natCast_mul]
          rw [← hp] at hab
          have HP : Hid (p = a * b) := hp
          clear hp
          have e1 : IntKind.u32.wrap (p : Int) = (p : Int) := by rw [IntKind.wrap_u32]; omega
          obtain ⟨op, hop⟩ : ∃ op, op = o + p := ⟨_, rfl⟩
          have e2 : IntKind.u32.wrap ((o : Int) + (p : Int)) = (op : Int) := by rw [IntKind.wrap_u32]; omega
          obtain ⟨x, hx⟩ : ∃ x, x = o + p + c := ⟨_, rfl⟩
          have e3 : IntKind.u32.wrap ((op : Int) + (c : Int)) = (x : Int) := by rw [IntKind.wrap_u32]; omega
          have HX : Hid (x = o + p + c) := hx
          have hxl : x < 4294967296 := by omega
          have ek : (i : Int) + (k : Int) = (sk : Int) := by omega
          have k3 : (sk : Int) < (n : Int) := by have := HO2.out.2.1; omega
          have HSK : Hid (sk = i + k) := hsk
          rw [← hsk] at y3 y4
          clear hx hop hsk
          go_wp2
          go_quiet (fail)
          go_wp2
          obtain ⟨d, hd⟩ : ∃ d, d = x % 65536 := ⟨_, rfl⟩
          obtain ⟨q, hq⟩ : ∃ q, q = x / 65536 := ⟨_, rfl⟩
          have f1 : (x : Int) % 65536 = (d : Int) := by omega
          have f2 : (x : Int) / 65536 = (q : Int) := by omega
          rw [f1, f2]
          obtain ⟨r1, r2, r3, r4⟩ := HO2.out
          have hsk := HSK.out
          refine ⟨⟨k + 1, q, L2.set sk d, by simp, rfl, by omega, by omega, OutIs.set (OutIs.drewN r1) sk d, by rw [List.length_set]; exact r2, set_lt r3 (by omega), ?_, ?_, (below_drewN hbw2).setCell (Nat.le_refl _) _⟩, ?_⟩
          · intro j hj
            rw [List.getElem?_set_ne (by omega)]
            exact r4 j hj
          · rw [hsk, HA.out]
            refine HST.out d q ?_
            have h1 := HX.out
            have h2 := HP.out
            rw [← h2]
            omega
          · simp only [RowKit.intOf]
            omega
        · obtain rfl : k = m.length := by omega
          have k2 : ¬ (m.length : Int) < (m.length : Int) := by omega
          obtain ⟨si, hsi⟩ : ∃ si, si = i + m.length := ⟨_, rfl⟩
          have hik : i + m.length < L2.length := by have := HN.out; omega
          have y3 := hO2.cell (i + m.length) hik
          have y4 := hO2.frozen (i + m.length)
          have hz := hz2' (i + m.length) (Nat.le_refl _)
          have fin := mul_out (V := 0) g1 hik hz hv2
          rw [hz] at y3
          have HO2 : Hid (OutIs wr w.heap.size L2 ∧ L2.length = n ∧ (∀ d ∈ L2, d < 65536) ∧ (∀ j, i + m.length ≤ j → L2[j]?.getD 0 = 0)) := ⟨hO2, hn2', hd2, hz2'⟩
          have HFI : Hid (val (L2.set (i + m.length) c) = val (l.take (i + 1)) * val m) := fin
          have e2 : IntKind.u32.wrap (c : Int) = (c : Int) := by rw [IntKind.wrap_u32]; omega
          have ek : (i : Int) + (m.length : Int) = (si : Int) := by omega
          have k3 : (si : Int) < (n : Int) := by omega
          have HSI : Hid (si = i + m.length) := hsi
          rw [← hsi] at y3 y4
          clear hO2 hn2' hd2 hz2' hv2 fin hz hsi hc1 hc2
          go_wp2
          obtain ⟨r1, r2, r3, r4⟩ := HO2.out
          have hsi := HSI.out
          refine ⟨⟨i + 1, L2.set si c, by simp, by omega, OutIs.set r1 si c, by rw [List.length_set]; exact r2, set_lt r3 hc, ?_, ?_, hbw2.setCell (Nat.le_refl _) _⟩, ?_⟩
          · intro j hj
            rw [List.getElem?_set_ne (by omega)]
            exact r4 j (by omega)
          · rw [hsi]
            exact HFI.out
          · simp only [RowKit.intOf]
            omega
    · have k1 : ¬ (i : Int) < (l.length : Int) := by omega
      obtain ⟨a1, a2, a3, a4⟩ := HL.out
      have HF : Hid (val L = val l * val m) := by
        show val L = val l * val m
        rw [a4, List.take_of_length_le (by omega)]
      have hrow := HO.out.row (cap := n) (by omega) (by omega)
      rw [a1] at hrow
      have ct := cut_any L (.slice (some ⟨w.heap.size, 0, none⟩) n n) (by omega) a2 wr hrow
      clear hrow a1 a2 a3 a4
      go_wp2_with (first | (go_at_call 117; refine ct.mono ?_; rintro e w1 ⟨v', rfl, hv', rfl⟩))
      go_ret
      exact ⟨v', rfl, by rw [← HF.out]; exact hv', hbw⟩
end Go.Proofs.YtellndmbllmjgaaGreatDoor
/- Mul, of any two; Power. -/
set_option linter.unusedVariables false
namespace Go.Proofs.YtellndmbllmjgaaGreatDoor
open Go.RowKit Go.Shelf Go.Sort Fs Fl

theorem zeros_lt (n : Nat) : ∀ d ∈ List.replicate n 0, d < 65536 := by
  intro d hd
  rw [List.eq_of_mem_replicate hd]
  omega
theorem zeros_val (n : Nat) : val (List.replicate n 0) = 0 := val_zero _ (fun d hd => List.eq_of_mem_replicate hd)
set_option maxRecDepth 100000 in
set_option maxHeartbeats 1000000 in
theorem mul_0 (k : Nat) (hk : k ≤ 1000) (oa ob : Option Addr) (c1 c2 : Nat) (w : World) :
    Calls Tryz.prog 65 #[.slice oa 0 c1, .slice ob k c2] w fun e w' => ∃ v, e = .returned v ∧ NatIs w' v 0 ∧ Below w.heap.size w w' := by
  obtain ⟨i0, hi, hz0, hz1, hz2⟩ := info_parts info108
  go_enter Tryz.func65, Tryz.ntmps65
  go_wp2_with (first | (refine wpList_make_full _ rfl _ _ 53 rfl w.heap.size 108 i0 (.int .u32 0) 1 Tryz.underlying53 hi hz0 hz1 .i64 .i64 _ _ k rfl rfl (by go_num) (by go_num) (by rw [hz2]; omega) (by unfold maxLen; omega) (Nat.le_refl _) ?_; intro w1 hown0 hg0))
  have hb0 : Below w.heap.size w w1 := (Below.refl _ _).grown hg0 (Nat.le_refl _) (fun k e => by cases e)
  have hO0 := out_of_own hown0 (made_zero k)
  clear hown0 hg0
  refine wp_loop_once ?_
  have hrow := hO0.row (cap := k) (by simp) (by omega)
  rw [List.length_replicate] at hrow
  have ct := cut_any (List.replicate k 0) (.slice (some ⟨w.heap.size, 0, none⟩) k k) (by simp; omega) (zeros_lt k) w1 hrow
  rw [zeros_val] at ct
  clear hrow hO0
  go_wp2_with (first | (go_at_call 117; refine ct.mono ?_; rintro e w2 ⟨v', rfl, hv', rfl⟩))
  go_ret
  exact ⟨v', rfl, hv', hb0⟩
set_option maxRecDepth 100000 in
set_option maxHeartbeats 1000000 in
theorem mul_x0 (l : List Nat) (b1 o1 c1 : Nat) (ob : Option Addr) (c2 : Nat) (hl : ∀ d ∈ l, d < 65536) (hll : l.length ≤ 1000) (w : World)
    (hb1 : b1 < w.heap.size) (hc1 : ∀ j, j < l.length → w.cell? ⟨b1, o1 + j, none⟩ = some (.int .u32 ((l[j]?.getD 0 : Nat) : Int))) :
    Calls Tryz.prog 65 #[.slice (some ⟨b1, o1, none⟩) l.length c1, .slice ob 0 c2] w fun e w' => ∃ v, e = .returned v ∧ NatIs w' v 0 ∧ Below w.heap.size w w' := by
  obtain ⟨i0, hi, hz0, hz1, hz2⟩ := info_parts info108
  generalize hn : l.length = n at *
  clear hn
  go_enter Tryz.func65, Tryz.ntmps65
  go_wp2_with (first | (refine wpList_make_full _ rfl _ _ 53 rfl w.heap.size 108 i0 (.int .u32 0) 1 Tryz.underlying53 hi hz0 hz1 .i64 .i64 _ _ n rfl rfl (by go_num) (by go_num) (by rw [hz2]; omega) (by unfold maxLen; omega) (Nat.le_refl _) ?_; intro w1 hown0 hg0))
  have hb0 : Below w.heap.size w w1 := (Below.refl _ _).grown hg0 (Nat.le_refl _) (fun k e => by cases e)
  have hO0 := out_of_own hown0 (made_zero n)
  clear hown0 hg0
  go_loopw [6] (fun vi wr => ∃ i : Nat, vi = .int .i64 (i : Int) ∧ i ≤ n ∧ OutIs wr w.heap.size (List.replicate n 0) ∧ Below w.heap.size w wr) (fun vi _ => n - (RowKit.intOf vi).toNat)
  case atStart => exact ⟨0, rfl, Nat.zero_le _, hO0, hb0⟩
  case round =>
    obtain ⟨i, rfl, hil, hO, hbw⟩ := hrel
    clear hO0 hb0
    by_cases g1 : i < n
    · have k1 : (i : Int) < (n : Int) := by omega
      have y3 := hO.cell i (by simp; exact g1)
      have y4 := hO.frozen i
      have yz : (List.replicate n 0)[i]?.getD 0 = 0 := by rw [List.getElem?_replicate]; split <;> rfl
      rw [yz] at y3
      have HO : Hid (OutIs wr w.heap.size (List.replicate n 0)) := hO
      clear hO hc1 yz
      go_wp2
      refine wp_loop_once ?_
      go_wp2
      refine ⟨⟨i + 1, by simp, by omega, ?_, hbw.setCell (Nat.le_refl _) _⟩, ?_⟩
      · have := OutIs.set HO.out i 0
        rw [List.set_replicate_self] at this
        exact this
      · simp only [RowKit.intOf]
        omega
    · have k1 : ¬ (i : Int) < (n : Int) := by omega
      have hrow := hO.row (cap := n) (by simp) (by omega)
      rw [List.length_replicate] at hrow
      have ct := cut_any (List.replicate n 0) (.slice (some ⟨w.heap.size, 0, none⟩) n n) (by simp; omega) (zeros_lt n) wr hrow
      rw [zeros_val] at ct
      clear hrow hO hc1
      go_wp2_with (first | (go_at_call 117; refine ct.mono ?_; rintro e w2 ⟨v', rfl, hv', rfl⟩))
      go_ret
      exact ⟨v', rfl, hv', hbw⟩
/-- **Mul.** -/
theorem mul_any (u v : Value) (x y : Nat) (w : World) (hx : NatIs w u x) (hy : NatIs w v y) (bx : x < pw 1000) (by' : y < pw 1000) :
    Calls Tryz.prog 65 #[u, v] w fun e w' => ∃ r, e = .returned r ∧ NatIs w' r (x * y) ∧ Below w.heap.size w w' := by
  obtain ⟨l, hl1, hl2, rfl⟩ := hx
  obtain ⟨m, hm1, hm2, rfl⟩ := hy
  have l1 := len_le hl2 bx
  have l2 := len_le hm2 by'
  rcases hl1 with ⟨⟨oa, c1, rfl, _⟩, hle⟩ | ⟨b1, o1, c1, rfl, _, hb1, hc1⟩
  · subst hle
    obtain ⟨ob, c2, rfl⟩ := hm1.slice
    simpa [val] using mul_0 m.length l2 oa ob c1 c2 w
  · rcases hm1 with ⟨⟨ob, c2, rfl, _⟩, hme⟩ | ⟨b2, o2, c2, rfl, _, hb2, hc2⟩
    · subst hme
      simpa [val] using mul_x0 l b1 o1 c1 ob c2 hl2.1 l1 w hb1 hc1
    · exact mul_11 l m b1 o1 c1 b2 o2 c2 hl2.1 hm2.1 l1 l2 w hb1 hc1 hb2 hc2
end Go.Proofs.YtellndmbllmjgaaGreatDoor
/- Power. -/
set_option linter.unusedVariables false
namespace Go.Proofs.YtellndmbllmjgaaGreatDoor
open Go.RowKit Go.Shelf Go.Sort Fs Fl

theorem pw_add (a b : Nat) : pw (a + b) = pw a * pw b := Nat.pow_add ..
theorem pw_pos (a : Nat) : 0 < pw a := Nat.pow_pos (by omega)
/-- What holds ahead of each round of Power. -/
def PowR (w : World) (T : Nat) (vn vo vb : Value) (wr : World) : Prop :=
  ∃ (k O B : Nat), vn = .int .i64 (k : Int) ∧ k ≤ 10000 ∧ NatIs wr vo O ∧ NatIs wr vb B ∧ 1 ≤ O ∧ 1 ≤ B ∧ O * B ^ k = T ∧ Below w.heap.size w wr
theorem pow_facts {O B k T : Nat} (h0 : 0 < k) (h1 : 1 ≤ O) (h2 : 1 ≤ B) (h : O * B ^ k = T) : O ≤ T ∧ B ≤ T := by
  have a1 : 1 ≤ B ^ k := Nat.pow_pos h2
  have a2 : O * 1 ≤ O * B ^ k := Nat.mul_le_mul_left _ a1
  have a3 : B ^ 1 ≤ B ^ k := Nat.pow_le_pow_right h2 h0
  have a4 : 1 * B ^ k ≤ O * B ^ k := Nat.mul_le_mul_right _ h1
  rw [Nat.pow_one] at a3
  omega
theorem pow_odd {O B k T : Nat} (h : O * B ^ (2 * k + 1) = T) : O * B * (B * B) ^ k = T := by
  rw [← h, Nat.pow_succ, Nat.pow_mul, Nat.pow_two]
  generalize (B * B) ^ k = x
  grind
theorem pow_even {O B k T : Nat} (h : O * B ^ (2 * k) = T) : O * (B * B) ^ k = T := by
  rw [← h, Nat.pow_mul, Nat.pow_two]
set_option maxRecDepth 100000 in
set_option maxHeartbeats 400000 in
theorem power_any (b : Nat) (n : Int) (hb1 : 1 ≤ b) (hb2 : b < 65536) (hn1 : -100000 ≤ n) (hn : n ≤ 10000) (hB : b ^ n.toNat < pw 500) (w : World) :
    Calls Tryz.prog 64 #[.int .u64 (b : Int), .int .i64 n] w fun e w' => ∃ v, e = .returned v ∧ NatIs w' v (b ^ n.toNat) ∧ Below w.heap.size w w' := by
  have c1 : ∀ w, Calls Tryz.prog 32 #[.int .u64 1] w fun e w' => ∃ v, e = .returned v ∧ NatIs w' v 1 ∧ Below w.heap.size w w' := fun w => nat_any 1 (by omega) w
  have c2 := fun w => nat_any b (by omega) w
  obtain ⟨T, hT⟩ : ∃ T, T = b ^ n.toNat := ⟨_, rfl⟩
  rw [← hT] at hB
  rw [← hT]
  have HT : Hid (T = b ^ n.toNat) := hT
  clear hT
  have HT5 : Hid (T < pw 1000) := Nat.lt_of_lt_of_le hB (pw_mono (by omega))
  clear hB
  go_enter Tryz.func64, Tryz.ntmps64
  go_wp2_with (first | (go_at_call 32; refine (c1 _).mono ?_; rintro e w1 ⟨v1, rfl, hv1, hw1⟩; clear c1) | (go_at_call 32; refine (c2 _).mono ?_; rintro e w2 ⟨v2, rfl, hv2, hw2⟩; clear c2))
  skip
  have hw12 : Below w.heap.size w w2 := hw1.trans (hw2.mono hw1.size)
  have hv1' := hv1.below hw2
  by_cases hneg : n < 0
  · have HT0 : T = 1 := by rw [HT.out, show n.toNat = 0 by omega, Nat.pow_zero]
    subst HT0
    have k0 : ¬ (0 : Int) < n := by omega
    refine wp_loop_once ?_
    go_wp2
    go_ret
    exact ⟨v1, rfl, hv1', hw12⟩
  · skip
    obtain ⟨k0, rfl⟩ : ∃ k0 : Nat, n = (k0 : Int) := ⟨n.toNat, by omega⟩
    go_loopw [1, 5, 6] (fun vn vo vb wr => PowR w T vn vo vb wr) (fun vn _ _ _ => (RowKit.intOf vn).toNat)
    case atStart => exact ⟨k0, 1, b, rfl, by omega, hv1', hv2, by omega, hb1, by rw [HT.out, Nat.one_mul]; rfl, hw12⟩
    case round =>
      obtain ⟨k, O, B, rfl, hk, hO, hBi, h1, h2, hv, hbw⟩ := hrel
      have HV : Hid (O * B ^ k = T) := hv
      clear hv hv1 hv2 hv1' hw1 hw2 hw12
      skip
      rcases Nat.eq_zero_or_pos k with h0 | h0
      · have HO : O = T := by have := HV.out; rw [h0, Nat.pow_zero, Nat.mul_one] at this; exact this
        subst h0
        go_wp2
        go_ret
        exact ⟨_, rfl, HO ▸ hO, hbw⟩
      · obtain ⟨f1, f2⟩ := pow_facts h0 h1 h2 HV.out
        have k1 : (0 : Int) < (k : Int) := by omega
        have bB : B < pw 1000 := Nat.lt_of_le_of_lt f2 HT5.out
        have mb := fun (w' : World) (hb' : Below wr.heap.size wr w') => mul_any u6 u6 B B w' (hBi.below hb') (hBi.below hb') bB bB
        skip
        rcases Nat.mod_two_eq_zero_or_one k with hp | hp
        · have k2 : ((k : Int) % 2 == 1) = false := by rw [beq_eq_false_iff_ne]; omega
          have mb0 := mb wr (Below.refl _ _)
          clear mb bB
          go_wp2_with (first | (go_at_call 65; refine mb0.mono ?_; rintro e w3 ⟨v3, rfl, hv3, hw3⟩))
          refine ⟨⟨k / 2, O, B * B, by go_num, by omega, hO.below hw3, hv3, h1, Nat.mul_pos h2 h2, pow_even (by rw [show 2 * (k / 2) = k by omega]; exact HV.out), hbw.trans (hw3.mono hbw.size)⟩, ?_⟩
          simp only [RowKit.intOf]
          omega
        · skip
          have k2 : ((k : Int) % 2 == 1) = true := by rw [beq_iff_eq]; omega
          have mo := mul_any u5 u6 O B wr hO hBi (Nat.lt_of_le_of_lt f1 HT5.out) bB
          clear bB
          have HMB := (show Hid _ from mb)
          clear mb
          go_wp2_with (first | (go_at_call 65; refine mo.mono ?_; rintro e w3 ⟨v3, rfl, hv3, hw3⟩; have mb3 := HMB.out w3 hw3; clear mo) | (go_at_call 65; refine mb3.mono ?_; rintro e w4 ⟨v4, rfl, hv4, hw4⟩; clear mb3))
          refine ⟨⟨k / 2, O * B, B * B, by go_num, by omega, hv3.below hw4, hv4, Nat.mul_pos h1 h2, Nat.mul_pos h2 h2, pow_odd (by rw [show 2 * (k / 2) + 1 = k by omega]; exact HV.out), (hbw.trans (hw3.mono hbw.size)).trans (hw4.mono (hbw.trans (hw3.mono hbw.size)).size)⟩, ?_⟩
          simp only [RowKit.intOf]
          omega
end Go.Proofs.YtellndmbllmjgaaGreatDoor
/- Small; bits. -/
set_option linter.unusedVariables false
namespace Go.Proofs.YtellndmbllmjgaaGreatDoor
open Go.RowKit Go.Shelf Go.Sort Fs Fl

/-- A row that lies in a block of digits. -/
def T108 (w : World) (v : Value) : Prop := ∃ b k c C fr, v = .slice (some ⟨b, 0, none⟩) k c ∧ w.heap[b]? = some (Obj.cells C 108 fr)
theorem cut_out (L : List Nat) (g n : Nat) (hL : L.length = n) (hn : n ≤ 1000000) (hd : ∀ d ∈ L, d < 65536) (w : World) (hO : OutIs w g L) :
    Calls Tryz.prog 117 #[.slice (some ⟨g, 0, none⟩) n n] w fun e w' => ∃ v', e = .returned v' ∧ NatIs w v' (val L) ∧ T108 w v' ∧ w' = w := by
  subst hL
  have hc : ∀ j, j < L.length → w.cell? ⟨g, 0 + j, none⟩ = some (.int .u32 ((L[j]?.getD 0 : Nat) : Int)) := fun j hj => by rw [Nat.zero_add]; exact hO.cell j hj
  have hg : g < w.heap.size := lt_of_get hO
  refine (cut_row L g 0 L.length hn (Nat.le_refl _) (by omega) w hg hc).mono ?_
  rintro e w' ⟨k, hk, hz, hlast, rfl, rfl⟩
  refine ⟨_, rfl, ⟨L.take k, Row32.take rfl ⟨Nat.le_refl _, by omega⟩ hg hc hk, ⟨fun d h => hd d (List.mem_of_mem_take h), ?_⟩, take_zero L k hz⟩, ⟨g, k, L.length, _, _, rfl, hO⟩, rfl⟩
  have hlen : (L.take k).length = k := by rw [List.length_take]; omega
  rw [hlen]
  intro h0
  rw [List.getElem?_take_of_lt (by omega)]
  exact hlast h0
/-- What holds ahead of each round of Small. -/
def SmR (w : World) (l : List Nat) (n d : Nat) (vl vi : Value) (wr : World) : Prop :=
  ∃ (k left : Nat) (L : List Nat), vi = .int .i64 ((k : Int) - 1) ∧ vl = .int .u32 (left : Int) ∧ left < d ∧ k ≤ n ∧ OutIs wr w.heap.size L ∧ L.length = n ∧ (∀ x ∈ L, x < 65536) ∧ val (l.drop k) = d * val (L.drop k) + left ∧ Below w.heap.size w wr
theorem small_step {l L : List Nat} {n d j left q r : Nat} (hj : j < n) (hL : L.length = n) (hv : val (l.drop (j + 1)) = d * val (L.drop (j + 1)) + left) (hx : left * 65536 + l[j]?.getD 0 = d * q + r) : val (l.drop j) = d * val ((L.set j q).drop j) + r := by
  rw [drop_val l j, drop_val (L.set j q) j, hv]
  have e1 : (L.set j q)[j]?.getD 0 = q := by rw [List.getElem?_set_self (by omega)]; rfl
  have e2 : (L.set j q).drop (j + 1) = L.drop (j + 1) := by
    rw [List.drop_set_of_lt (by omega)]
  rw [e1, e2]
  generalize l[j]?.getD 0 = a at *
  generalize val (L.drop (j + 1)) = V at *
  have : 65536 * (d * V + left) + a = 65536 * (d * V) + (left * 65536 + a) := by grind
  grind
set_option maxRecDepth 100000 in
set_option maxHeartbeats 1000000 in
theorem small_1 (l : List Nat) (d b1 o1 c1 : Nat) (hd0 : 0 < d) (hd : d ≤ 36) (hl : ∀ d ∈ l, d < 65536) (hll : l.length ≤ 1000) (w : World)
    (hb1 : b1 < w.heap.size) (hc1 : ∀ j, j < l.length → w.cell? ⟨b1, o1 + j, none⟩ = some (.int .u32 ((l[j]?.getD 0 : Nat) : Int))) :
    Calls Tryz.prog 85 #[.slice (some ⟨b1, o1, none⟩) l.length c1, .int .u32 (d : Int)] w fun e w' => ∃ v, e = .returned (.tuple #[v, .int .u32 ((val l % d : Nat) : Int)]) ∧ NatIs w' v (val l / d) ∧ T108 w' v ∧ Below w.heap.size w w' := by
  obtain ⟨i0, hi, hz0, hz1, hz2⟩ := info_parts info108
  obtain ⟨n, hn⟩ : ∃ n, l.length = n := ⟨_, rfl⟩
  rw [hn] at hll hc1 ⊢
  go_enter Tryz.func85, Tryz.ntmps85
  go_wp2_with (first | (refine wpList_make_full _ rfl _ _ 53 rfl w.heap.size 108 i0 (.int .u32 0) 1 Tryz.underlying53 hi hz0 hz1 .i64 .i64 _ _ n rfl rfl (by go_num) (by go_num) (by rw [hz2]; omega) (by unfold maxLen; omega) (Nat.le_refl _) ?_; intro w1 hown0 hg0))
  have hb0 : Below w.heap.size w w1 := (Below.refl _ _).grown hg0 (Nat.le_refl _) (fun k e => by cases e)
  have hO0 := out_of_own hown0 (made_zero n)
  clear hown0 hg0
  go_loopw [7, 8] (fun vl vi wr => SmR w l n d vl vi wr) (fun _ vi _ => (RowKit.intOf vi + 1).toNat)
  case atStart => exact ⟨n, 0, List.replicate n 0, rfl, rfl, hd0, Nat.le_refl _, hO0, by simp, zeros_lt n, by rw [List.drop_of_length_le (by omega), List.drop_of_length_le (by simp)]; simp [val], hb0⟩
  case round =>
    obtain ⟨k, left, L, rfl, rfl, hleft, hk, hO, hLn, hLd, hv, hbw⟩ := hrel
    have HL : Hid (L.length = n ∧ (∀ x ∈ L, x < 65536) ∧ val (l.drop k) = d * val (L.drop k) + left) := ⟨hLn, hLd, hv⟩
    have HO : Hid (OutIs wr w.heap.size L) := hO
    clear hLn hLd hv hO hO0 hb0
    rcases Nat.eq_zero_or_pos k with h0 | h0
    · subst h0
      obtain ⟨a1, a2, a3⟩ := HL.out
      have ct := cut_out L w.heap.size n a1 (by omega) a2 wr HO.out
      have HF : Hid (val L = val l / d ∧ left = val l % d) := by
        show val L = val l / d ∧ left = val l % d
        rw [List.drop_zero, List.drop_zero] at a3
        rw [a3, Nat.mul_add_div hd0, Nat.div_eq_of_lt hleft, Nat.mul_add_mod, Nat.mod_eq_of_lt hleft]
        exact ⟨rfl, rfl⟩
      clear a1 a2 a3 hc1 hl
      go_wp2_with (first | (go_at_call 117; refine ct.mono ?_; rintro e w2 ⟨v', rfl, hv', hT', rfl⟩))
      go_ret2
      rw [← HF.out.1, ← HF.out.2]
      exact ⟨v', rfl, hv', hT', hbw⟩
    · obtain ⟨j, rfl⟩ : ∃ j, k = j + 1 := ⟨k - 1, by omega⟩
      have ej : ((j + 1 : Nat) : Int) - 1 = (j : Int) := by omega
      have x1 := (hbw.cell (p := ⟨b1, o1 + j, none⟩) hb1).trans (hc1 j (by omega))
      have la := getD_lt hl j
      have y3 := HO.out.cell j (by have := HL.out.1; omega)
      have y4 := HO.out.frozen j
      have STEP := fun q r (hx : left * 65536 + l[j]?.getD 0 = d * q + r) => small_step (n := n) (by omega) HL.out.1 HL.out.2.2 hx
      have HST := (show Hid _ from STEP)
      clear STEP hc1 hl
      generalize l[j]?.getD 0 = a at *
      generalize L[j]?.getD 0 = z at y3
      have e3 : ((d : Int) == 0) = false := by rw [beq_eq_false_iff_ne]; omega
      have k1 : (j : Int) < (n : Int) := by omega
      rw [ej]
      go_wp2
      obtain ⟨x, hx⟩ : ∃ x, x = left * 65536 + a := ⟨_, rfl⟩
      have f0 : (left : Int) * 65536 + (a : Int) = (x : Int) := by omega
      have f1 : (x : Int) / (d : Int) = ((x / d : Nat) : Int) := rfl
      have f2 : (x : Int) % (d : Int) = ((x % d : Nat) : Int) := rfl
      rw [f0, f1, f2]
      have hxd : x / d < 65536 := by
        rw [Nat.div_lt_iff_lt_mul hd0]
        omega
      refine ⟨⟨j, x % d, L.set j (x / d), rfl, rfl, Nat.mod_lt _ hd0, by omega, OutIs.set HO.out j (x / d), by rw [List.length_set]; exact HL.out.1, set_lt HL.out.2.1 hxd, HST.out _ _ (by rw [← hx]; exact (Nat.div_add_mod x d).symm), hbw.setCell (Nat.le_refl _) _⟩, ?_⟩
      simp only [RowKit.intOf]
      omega
/-- **Small.** -/
theorem small_any (u : Value) (x d : Nat) (hd0 : 0 < d) (hd : d ≤ 36) (w : World) (hx : NatIs w u x) (h0 : 0 < x) (bx : x < pw 1000) :
    Calls Tryz.prog 85 #[u, .int .u32 (d : Int)] w fun e w' => ∃ v, e = .returned (.tuple #[v, .int .u32 ((x % d : Nat) : Int)]) ∧ NatIs w' v (x / d) ∧ T108 w' v ∧ Below w.heap.size w w' := by
  obtain ⟨l, hl1, hl2, rfl⟩ := hx
  have l1 := len_le hl2 bx
  rcases hl1 with ⟨⟨oa, c1, rfl, _⟩, hle⟩ | ⟨b1, o1, c1, rfl, _, hb1, hc1⟩
  · subst hle
    exact absurd h0 (by simp [val])
  · exact small_1 l d b1 o1 c1 hd0 hd hl2.1 l1 w hb1 hc1
/-- How many bits a number has. -/
def BitsIs (x t : Nat) : Prop := (x = 0 ∧ t = 0) ∨ (1 ≤ t ∧ 2 ^ (t - 1) ≤ x ∧ x < 2 ^ t)
theorem pow16 (n : Nat) : 65536 ^ n = 2 ^ (16 * n) := by rw [Nat.pow_mul]
set_option maxRecDepth 100000 in
set_option maxHeartbeats 1000000 in
theorem bits_1 (l : List Nat) (b1 o1 c1 : Nat) (hl : Ok l) (h0 : 0 < l.length) (hll : l.length ≤ 1000) (w : World)
    (hb1 : b1 < w.heap.size) (hc1 : ∀ j, j < l.length → w.cell? ⟨b1, o1 + j, none⟩ = some (.int .u32 ((l[j]?.getD 0 : Nat) : Int))) :
    Calls Tryz.prog 66 #[.slice (some ⟨b1, o1, none⟩) l.length c1] w fun e w' => ∃ t : Nat, e = .returned (.int .i64 (t : Int)) ∧ BitsIs (val l) t ∧ t ≤ 16000 ∧ Below w.heap.size w w' := by
  obtain ⟨n, hn⟩ : ∃ n, l.length = n + 1 := ⟨l.length - 1, by omega⟩
  have x1 := hc1 n (by omega)
  have htop := hl.2 h0
  have hv := val_split l n (by omega)
  have hlow := val_lt (l.take n) (fun d hd => hl.1 d (List.mem_of_mem_take hd))
  have htl := getD_lt hl.1 n
  rw [hn, Nat.add_sub_cancel] at htop
  rw [List.length_take, Nat.min_eq_left (by omega)] at hlow
  rw [List.drop_of_length_le (by omega)] at hv
  simp only [val, Nat.mul_zero, Nat.add_zero] at hv
  rw [hn] at hll ⊢
  generalize l[n]?.getD 0 = top at *
  have fin : ∀ c, top / 2 ^ c = 0 → (0 < c → top / 2 ^ (c - 1) ≠ 0) → BitsIs (val l) (16 * n + c) := by
    intro c hc1 hc2
    have hp := Nat.two_pow_pos c
    have a1 : top < 2 ^ c := by
      rcases Nat.lt_or_ge top (2 ^ c) with h | h
      · exact h
      · have := Nat.div_pos h hp; omega
    have hc0 : 0 < c := by
      rcases Nat.eq_zero_or_pos c with h | h
      · rw [h] at a1; simp at a1; omega
      · exact h
    have a2 : 2 ^ (c - 1) ≤ top := by
      have := hc2 hc0
      rcases Nat.lt_or_ge top (2 ^ (c - 1)) with h | h
      · rw [Nat.div_eq_of_lt h] at this; omega
      · exact h
    refine Or.inr ⟨by omega, ?_, ?_⟩
    · rw [show 16 * n + c - 1 = 16 * n + (c - 1) by omega, Nat.pow_add, ← pow16]
      have : 65536 ^ n * 2 ^ (c - 1) ≤ 65536 ^ n * top := Nat.mul_le_mul_left _ a2
      omega
    · rw [Nat.pow_add, ← pow16]
      have : 65536 ^ n * (top + 1) ≤ 65536 ^ n * 2 ^ c := Nat.mul_le_mul_left _ a1
      rw [Nat.mul_add] at this
      omega
  have FIN := (show Hid _ from fin)
  clear fin hv hlow hc1 hl h0
  have t0 : ((n : Int) + 1 == 0) = false := by rw [beq_eq_false_iff_ne]; omega
  go_enter Tryz.func66, Tryz.ntmps66
  go_wp2
  go_loopw [3, 4] (fun vn vx wr => ∃ c : Nat, vn = .int .i64 ((16 * n + c : Nat) : Int) ∧ vx = .int .u32 ((top / 2 ^ c : Nat) : Int) ∧ c ≤ 16 ∧ (0 < c → top / 2 ^ (c - 1) ≠ 0) ∧ Below w.heap.size w wr) (fun _ vx _ => (RowKit.intOf vx).toNat)
  case atStart => exact ⟨0, by simp, by simp, by omega, by omega, Below.refl _ _⟩
  case round =>
    obtain ⟨c, rfl, rfl, hc, hne, hbw⟩ := hrel
    obtain ⟨y, hy⟩ : ∃ y, y = top / 2 ^ c := ⟨_, rfl⟩
    have HY : Hid (y = top / 2 ^ c ∧ (0 < c → top / 2 ^ (c - 1) ≠ 0)) := ⟨hy, hne⟩
    obtain ⟨s, hs⟩ : ∃ s, s = 16 * n + c := ⟨_, rfl⟩
    have HS : Hid (s = 16 * n + c) := hs
    have hs2 : s ≤ 16000 := by omega
    have hy2 : y < 65536 := by
      have : top / 2 ^ c ≤ top := Nat.div_le_self _ _
      omega
    rw [← hy, ← hs]
    clear hne hs hy
    rcases Nat.eq_zero_or_pos y with h0 | h0
    · have HB : Hid (BitsIs (val l) s) := by
        have h1 := HY.out
        have h2 := FIN.out c (by omega) h1.2
        rw [HS.out]
        exact h2
      subst h0
      go_wp2
      go_ret
      exact ⟨s, rfl, HB.out, hs2, hbw⟩
    · go_wp2
      have h1 := HY.out.1
      have hc16 : c < 16 := by
        rcases Nat.lt_or_ge c 16 with h | h
        · exact h
        · have h2 : 2 ^ 16 ≤ 2 ^ c := Nat.pow_le_pow_right (by omega) h
          have h3 : top / 2 ^ c = 0 := Nat.div_eq_of_lt (by omega)
          omega
      have h4 : top / 2 ^ (c + 1) = y / 2 := by rw [Nat.pow_succ, ← Nat.div_div_eq_div_mul, ← h1]
      refine ⟨⟨c + 1, ?_, ?_, by omega, fun _ => by rw [Nat.add_sub_cancel, ← h1]; omega, hbw⟩, ?_⟩
      · rw [HS.out]; simp; omega
      · rw [h4]; rfl
      · simp only [RowKit.intOf]
        omega
/-- **bits.** -/
theorem bits_any (u : Value) (x : Nat) (w : World) (hx : NatIs w u x) (bx : x < pw 1000) :
    Calls Tryz.prog 66 #[u] w fun e w' => ∃ t : Nat, e = .returned (.int .i64 (t : Int)) ∧ BitsIs x t ∧ t ≤ 16000 ∧ Below w.heap.size w w' := by
  obtain ⟨l, hl1, hl2, rfl⟩ := hx
  have l1 := len_le hl2 bx
  rcases Nat.eq_zero_or_pos l.length with h0 | h0
  · have e1 : l = [] := List.eq_nil_of_length_eq_zero h0
    subst e1
    obtain ⟨a, c, rfl⟩ := hl1.slice
    clear hl1 hl2 bx l1
    go_enter Tryz.func66, Tryz.ntmps66
    go_wp2
    go_ret
    exact ⟨0, rfl, Or.inl ⟨rfl, rfl⟩, by omega, Below.refl _ _⟩
  · obtain ⟨b1, o1, c1, rfl, hc1⟩ := cell_of hl1 h0
    have hb1 : b1 < w.heap.size := by
      rcases hl1 with ⟨_, e⟩ | ⟨b, off, cap, e, _, hb, _⟩
      · rw [e] at h0; simp at h0
      · cases e; exact hb
    exact bits_1 l b1 o1 c1 hl2 h0 l1 w hb1 hc1
end Go.Proofs.YtellndmbllmjgaaGreatDoor
/- Quo. -/
set_option linter.unusedVariables false
namespace Go.Proofs.YtellndmbllmjgaaGreatDoor
open Go.RowKit Go.Shelf Go.Sort Fs Fl

/-- What holds ahead of each round of Quo. -/
def QuoR (w : World) (P q : Nat) (vp vn vi : Value) (wr : World) : Prop :=
  ∃ (k n cur : Nat), vi = .int .i64 ((k : Int) - 1) ∧ vn = .int .u64 (n : Int) ∧ NatIs wr vp cur ∧ k ≤ 61 ∧ P = n * q + cur ∧ cur < 2 ^ k * q ∧ n + 2 ^ k ≤ 2 ^ 61 ∧ Below w.heap.size w wr
theorem two_pw (i : Nat) (h : i ≤ 64) : 2 ^ i ≤ pw 4 := by
  have h1 : 2 ^ i ≤ 2 ^ 64 := Nat.pow_le_pow_right (by omega) h
  exact Nat.le_trans h1 (Nat.le_of_eq (by decide))
theorem pw_lt_mul {a b m n k : Nat} (h1 : a ≤ pw m) (h2 : b < pw n) (h : m + n ≤ k) : a * b < pw k := by
  have h3 : a * b ≤ pw m * b := Nat.mul_le_mul_right _ h1
  have h4 : pw m * b < pw m * pw n := (Nat.mul_lt_mul_left (pw_pos m)).2 h2
  rw [← pw_add] at h4
  exact Nat.lt_of_le_of_lt h3 (Nat.lt_of_lt_of_le h4 (pw_mono h))
theorem pw_strict {m n : Nat} (h : m < n) : pw m < pw n := Nat.pow_lt_pow_right (by omega) h
theorem pw_lt {a m n : Nat} (h1 : a < pw m) (h : m ≤ n) : a < pw n := Nat.lt_of_lt_of_le h1 (pw_mono h)
theorem cmp_ge {c : Int} {x y : Nat} (h : CmpIs c x y) (hle : y ≤ x) : 0 ≤ c := by
  have := h.2
  omega
theorem cmp_neg {c : Int} {x y : Nat} (h : CmpIs c x y) (hle : x < y) : c < 0 := h.2.2 hle
theorem NatIs.drewN {w : World} {v : Value} {x n : Nat} (h : NatIs w v x) : NatIs (w.drewN n) v x := h
set_option maxRecDepth 100000 in
set_option maxHeartbeats 2000000 in
/-- **Quo.** -/
theorem quo_any (u v : Value) (P q : Nat) (w : World) (hu : NatIs w u P) (hv : NatIs w v q) (bP : P < pw 900) (bq : q < pw 900) (hq : 0 < q) (hlt : P < 2 ^ 61 * q) :
    Calls Tryz.prog 70 #[u, v] w fun e w' => ∃ r, e = .returned (.tuple #[.int .u64 ((P / q : Nat) : Int), r]) ∧ NatIs w' r (P % q) ∧ Below w.heap.size w w' := by
  have HB : Hid (P < pw 900 ∧ q < pw 900 ∧ P < 2 ^ 61 * q) := ⟨bP, bq, hlt⟩
  clear bP bq hlt
  go_enter Tryz.func70, Tryz.ntmps70
  go_wp2
  go_loopw [0, 6, 7] (fun vp vn vi wr => QuoR w P q vp vn vi wr) (fun _ _ vi _ => (RowKit.intOf vi + 1).toNat)
  case atStart => exact ⟨61, 0, P, by simp, rfl, hu, by omega, by omega, HB.out.2.2, by omega, Below.refl _ _⟩
  case round =>
    obtain ⟨k, n, cur, rfl, rfl, hcur, hk, hP, hc, hn, hbw⟩ := hrel
    have HC : Hid (P = n * q + cur ∧ cur < 2 ^ k * q ∧ n + 2 ^ k ≤ 2 ^ 61) := ⟨hP, hc, hn⟩
    have hn64 : n < 18446744073709551616 := by have := Nat.two_pow_pos k; omega
    clear hP hc hn hu
    rcases Nat.eq_zero_or_pos k with h0 | h0
    · subst h0
      have HF : Hid (n = P / q ∧ cur = P % q) := by
        show n = P / q ∧ cur = P % q
        obtain ⟨a1, a2, _⟩ := HC.out
        rw [Nat.pow_zero, Nat.one_mul] at a2
        rw [a1, Nat.mul_comm n, Nat.mul_add_div hq, Nat.div_eq_of_lt a2, Nat.mul_add_mod, Nat.mod_eq_of_lt a2]
        exact ⟨rfl, rfl⟩
      go_wp2
      go_ret2
      rw [← HF.out.1, ← HF.out.2]
      exact ⟨_, rfl, hcur, hbw⟩
    · obtain ⟨i, rfl⟩ : ∃ i, k = i + 1 := ⟨k - 1, by omega⟩
      have ej : ((i + 1 : Nat) : Int) - 1 = (i : Int) := by omega
      have hi60 : i ≤ 60 := by omega
      have cp : Calls Tryz.prog 64 #[.int .u64 2, .int .i64 (i : Int)] wr fun e w' => ∃ v, e = .returned v ∧ NatIs w' v (2 ^ i) ∧ Below wr.heap.size wr w' := by
        have := power_any 2 (i : Int) (by omega) (by omega) (by omega) (by omega) (Nat.lt_of_le_of_lt (two_pw _ (by rw [Int.toNat_natCast]; omega)) (pw_strict (by omega))) wr
        rw [Int.toNat_natCast] at this
        exact this
      have hvr := hv.below hbw
      have bcur : cur < pw 900 := by
        have := HC.out.1
        have h9 := HB.out.1
        have : cur ≤ P := by rw [HC.out.1]; exact Nat.le_add_left _ _
        exact Nat.lt_of_le_of_lt this h9
      have cm := fun (w1 : World) (x : Value) (hx : NatIs w1 x (2 ^ i)) (hb : Below wr.heap.size wr w1) => mul_any x v (2 ^ i) q w1 hx (hvr.below hb) (pw_lt (Nat.lt_of_le_of_lt (two_pw i (by omega)) (pw_strict (show 4 < 5 by omega))) (by omega)) (pw_lt HB.out.2.1 (by omega))
      have cc := fun (w1 : World) (x : Value) (hx : NatIs w1 x (2 ^ i * q)) (hb : Below wr.heap.size wr w1) => cmp_any u0 x cur (2 ^ i * q) w1 (hcur.below hb) hx (pw_lt bcur (by omega)) (pw_lt_mul (two_pw i (by omega)) HB.out.2.1 (by omega))
      have cs := fun (w1 : World) (x : Value) (hx : NatIs w1 x (2 ^ i * q)) (hb : Below wr.heap.size wr w1) (hle : 2 ^ i * q ≤ cur) => sub_any u0 x cur (2 ^ i * q) w1 (hcur.below hb) hx (pw_lt bcur (by omega)) hle
      have CM := (show Hid _ from cm)
      have CC := (show Hid _ from cc)
      have CS := (show Hid _ from cs)
      rw [ej]
      clear cm cc cs bcur hvr
      obtain ⟨S, hS⟩ : ∃ S, S = 2 ^ i := ⟨_, rfl⟩
      have hS2 : S ≤ 1152921504606846976 := by
        rw [hS]
        exact Nat.le_trans (Nat.pow_le_pow_right (by omega) hi60) (Nat.le_of_eq (by decide))
      by_cases hge : S * q ≤ cur
      · have HN : Hid (n + S + S ≤ 2 ^ 61 ∧ cur - S * q < 2 ^ i * q ∧ P = (n + S) * q + (cur - S * q)) := by
          obtain ⟨a1, a2, a3⟩ := HC.out
          rw [Nat.pow_succ, ← hS] at a2 a3
          refine ⟨by omega, ?_, ?_⟩
          · rw [← hS]
            have : S * 2 * q = S * q + S * q := by grind
            omega
          · rw [Nat.add_mul]
            omega
        have HS : Hid (S = 2 ^ i) := hS
        have hadd : n + S < 18446744073709551616 := by have := HN.out.1; omega
        have HGE : Hid (S * q ≤ cur) := hge
        clear hge hS
        go_wp2_with (first | (go_at_call 64; refine cp.mono ?_; rintro e w1 ⟨x1, rfl, hx1, hw1⟩; have cm1 := CM.out w1 x1 hx1 hw1; clear cp) | (go_at_call 65; refine cm1.mono ?_; rintro e w2 ⟨x2, rfl, hx2, hw2⟩; have cc1 := CC.out w2 x2 hx2 (hw1.trans (hw2.mono hw1.size)); clear cm1) | (go_at_call 67; refine cc1.mono ?_; rintro e w3 ⟨c, rfl, hcmp, nn, rfl⟩; have kc : (0 : Int) ≤ c := cmp_ge hcmp (HS.out ▸ HGE.out); have cs1 := CS.out (w2.drewN nn) x2 hx2.drewN (below_drewN (hw1.trans (hw2.mono hw1.size))) (HS.out ▸ HGE.out); clear cc1 hcmp) | (go_at_call 68; refine cs1.mono ?_; rintro e w4 ⟨x4, rfl, hx4, hw4⟩; clear cs1))
        have hw2' := hw1.trans (hw2.mono hw1.size)
        have hw3' : Below wr.heap.size wr (w2.drewN nn) := below_drewN hw2'
        have hw5 := hw3'.trans (hw4.mono hw3'.size)
        have e1 : IntKind.u64.wrap ((n : Int) + IntKind.u64.wrap (2 ^ i)) = ((n + S : Nat) : Int) := by
          have e0 : (2 : Int) ^ i = (S : Int) := by rw [HS.out, Int.natCast_pow]; rfl
          rw [e0, IntKind.wrap_u64, IntKind.wrap_u64]
          omega
        rw [e1]
        obtain ⟨b1, b2, b3⟩ := HN.out
        rw [← HS.out] at hx4 b2
        refine ⟨⟨i, n + S, cur - S * q, rfl, rfl, hx4, by omega, b3, by rw [← HS.out]; exact b2, by rw [← HS.out]; omega, hbw.trans (hw5.mono hbw.size)⟩, ?_⟩
        simp only [RowKit.intOf]
        omega
      · have HS : Hid (S = 2 ^ i) := hS
        have HGE : Hid (cur < S * q) := Nat.lt_of_not_le hge
        clear hge hS
        go_wp2_with (first | (go_at_call 64; refine cp.mono ?_; rintro e w1 ⟨x1, rfl, hx1, hw1⟩; have cm1 := CM.out w1 x1 hx1 hw1; clear cp) | (go_at_call 65; refine cm1.mono ?_; rintro e w2 ⟨x2, rfl, hx2, hw2⟩; have cc1 := CC.out w2 x2 hx2 (hw1.trans (hw2.mono hw1.size)); clear cm1) | (go_at_call 67; refine cc1.mono ?_; rintro e w3 ⟨c, rfl, hcmp, nn, rfl⟩; have kc : ¬ (0 : Int) ≤ c := Int.not_le.2 (cmp_neg hcmp (HS.out ▸ HGE.out)); clear cc1 hcmp))
        have hw2' := hw1.trans (hw2.mono hw1.size)
        have hw3' : Below wr.heap.size wr (w2.drewN nn) := below_drewN hw2'
        obtain ⟨a1, a2, a3⟩ := HC.out
        have hge := HGE.out
        rw [Nat.pow_succ, ← HS.out] at a3
        refine ⟨⟨i, n, cur, rfl, rfl, (hcur.below hw2').drewN, by omega, a1, by rw [← HS.out]; exact hge, by rw [← HS.out]; omega, hbw.trans (hw3'.mono hbw.size)⟩, ?_⟩
        simp only [RowKit.intOf]
        omega
end Go.Proofs.YtellndmbllmjgaaGreatDoor
