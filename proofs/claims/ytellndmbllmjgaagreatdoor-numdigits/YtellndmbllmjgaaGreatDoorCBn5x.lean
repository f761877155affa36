/- Sub. -/
import Derived.Test.YtellndmbllmjgaaGreatDoorCBn4
set_option linter.unusedVariables false
namespace Go.Proofs.YtellndmbllmjgaaGreatDoor
open Go.RowKit Go.Shelf Go.Sort Fs Fl

/-- What holds ahead of each round of Sub. -/
def SubR (w : World) (l m : List Nat) (out borrow vi : Value) (wr : World) : Prop :=
  ∃ (i c : Nat) (done : List Nat), wr.ownsRow w.heap.size 108 1 out done.length (done.map dv) ∧ borrow = .int .u32 (c : Int) ∧ vi = .int .i64 (i : Int) ∧ done.length = i ∧ c ≤ 1 ∧ i ≤ l.length ∧ (∀ d ∈ done, d < 65536) ∧ val done + 65536 ^ i * val (l.drop i) + val m = val l + 65536 ^ i * (c + val (m.drop i)) ∧ Below w.heap.size w wr
theorem sub_step {w : World} {l m : List Nat} {done : List Nat} {i c d c2 : Nat} {out : Value} {wr : World} (hi : done.length = i) (hlt : ∀ d ∈ done, d < 65536)
    (hv : val done + 65536 ^ i * val (l.drop i) + val m = val l + 65536 ^ i * (c + val (m.drop i))) (hx : l[i]?.getD 0 + 65536 * c2 = d + c + m[i]?.getD 0) (hd : d < 65536) (hc2 : c2 ≤ 1) (hil : i < l.length)
    (hown : wr.ownsRow w.heap.size 108 1 out (done.length + 1) (done.map dv ++ [.int .u32 (d : Int)])) (hb : Below w.heap.size w wr) :
    SubR w l m out (.int .u32 (c2 : Int)) (.int .i64 ((i : Int) + 1)) wr := by
  refine ⟨i + 1, c2, done ++ [d], ?_, rfl, by simp, by simp [hi], hc2, by omega, ?_, ?_, hb⟩
  · rw [List.length_append, List.map_append]
    exact hown
  · intro z hz
    rcases List.mem_append.1 hz with h | h
    · exact hlt z h
    · rw [List.mem_singleton.1 h]
      exact hd
  · rw [drop_val l i, drop_val m i] at hv
    rw [val_append, hi, Nat.pow_succ]
    simp only [val]
    generalize val (l.drop (i + 1)) = L at *
    generalize val (m.drop (i + 1)) = M at *
    generalize val done = D at *
    generalize val l = VL at *
    generalize val m = VM at *
    generalize 65536 ^ i = P at *
    generalize l[i]?.getD 0 = a at *
    generalize m[i]?.getD 0 = b at *
    have e1 : P * (a + 65536 * c2) = P * (d + c + b) := by rw [hx]
    grind
set_option maxRecDepth 100000 in
set_option maxHeartbeats 4000000 in
theorem sub_11 (l m : List Nat) (b1 o1 c1 b2 o2 c2 : Nat) (ob : Option Addr) (hl : ∀ d ∈ l, d < 65536) (hm : ∀ d ∈ m, d < 65536) (hll : l.length ≤ 1000) (hml : m.length ≤ l.length) (hxy : val m ≤ val l) (w : World)
    (hb1 : b1 < w.heap.size) (hc1 : ∀ j, j < l.length → w.cell? ⟨b1, o1 + j, none⟩ = some (.int .u32 ((l[j]?.getD 0 : Nat) : Int)))
    (hb2 : b2 < w.heap.size) (hc2 : ∀ j, j < m.length → w.cell? ⟨b2, o2 + j, none⟩ = some (.int .u32 ((m[j]?.getD 0 : Nat) : Int)))
    : Calls Tryz.prog 68 #[.slice (some ⟨b1, o1, none⟩) l.length c1, .slice (some ⟨b2, o2, none⟩) m.length c2] w fun e w' => ∃ v, e = .returned v ∧ NatIs w' v (val l - val m) ∧ Below w.heap.size w w' := by
  go_enter Tryz.func68, Tryz.ntmps68
  go_wp2
  go_loopw [5, 6, 7] (fun out borrow vi wr => SubR w l m out borrow vi wr) (fun _ _ vi _ => l.length - (RowKit.intOf vi).toNat)
  case atStart => exact ⟨0, 0, [], World.ownsRow_nil _ _ _ _, rfl, rfl, rfl, by omega, by omega, by simp, by simp [val], Below.refl _ _⟩
  case round =>
    obtain ⟨i, c, done, hown, rfl, rfl, hi, hc, hil, hlt, hval, hbw⟩ := hrel
    have HV : Hid (val done + 65536 ^ i * val (l.drop i) + val m = val l + 65536 ^ i * (c + val (m.drop i))) := hval
    have HLT : Hid (∀ d ∈ done, d < 65536) := hlt
    have HI : Hid (done.length = i) := hi
    have hdl : done.length ≤ 3000 := by omega
    clear hval hlt hi
    by_cases g1 : i < l.length
    · have k1 : (i : Int) < (l.length : Int) := by omega
      by_cases g2 : i < m.length
      · have k2 : (i : Int) < (m.length : Int) := by omega
        have la := getD_lt hl i
        have lb := getD_lt hm i
        have x1 : wr.cell? ⟨b1, o1 + i, none⟩ = some (.int .u32 ((l[i]?.getD 0 : Nat) : Int)) := (hbw.cell (p := ⟨b1, o1 + i, none⟩) hb1).trans (hc1 i (by omega))
        have x2 : wr.cell? ⟨b2, o2 + i, none⟩ = some (.int .u32 ((m[i]?.getD 0 : Nat) : Int)) := (hbw.cell (p := ⟨b2, o2 + i, none⟩) hb2).trans (hc2 i (by omega))
        have STEP := fun (d c2 : Nat) (out : Value) (w2 : World) (h1 : l[i]?.getD 0 + 65536 * c2 = d + c + m[i]?.getD 0) (h2 : d < 65536) (h3 : c2 ≤ 1) => sub_step (w := w) (d := d) (c2 := c2) (out := out) (wr := w2) HI.out HLT.out HV.out h1 h2 h3 g1
        have HS := (show Hid _ from STEP)
        clear STEP
        generalize l[i]?.getD 0 = a at *
        generalize m[i]?.getD 0 = b at *
        obtain ⟨x, hxx⟩ : ∃ x, x = a + 65536 - c - b := ⟨_, rfl⟩
        obtain ⟨d, hd⟩ : ∃ d, d = x % 65536 := ⟨_, rfl⟩
        obtain ⟨q, hq⟩ : ∃ q, q = 1 - x / 65536 := ⟨_, rfl⟩
        have HDQ : Hid (a + 65536 * q = d + c + b ∧ d < 65536 ∧ q ≤ 1) := (by omega : a + 65536 * q = d + c + b ∧ d < 65536 ∧ q ≤ 1)
        have HX : Hid (x = a + 65536 - c - b ∧ d = x % 65536 ∧ q = 1 - x / 65536) := ⟨hxx, hd, hq⟩
        clear hxx hd hq hc1 hc2
        go_wp2_with (first | (at_builtin; refine app32 rfl _ _ rfl w.heap.size _ _ _ w _ _ hown rfl rfl (by omega) (Nat.le_refl _) hbw ?_; intro v' w2 hown' hbw'))
        obtain ⟨q1, q2, q3⟩ := HDQ.out
        obtain ⟨q4, q5, q6⟩ := HX.out
        have f1 : ((a : Int) + 65536 - (c : Int) - (b : Int)) % 65536 = (d : Int) := by omega
        have f2 : 1 - ((a : Int) + 65536 - (c : Int) - (b : Int)) / 65536 = (q : Int) := by omega
        rw [f1] at hown'
        rw [f2]
        refine ⟨HS.out d q v' w2 q1 q2 q3 hown' hbw', ?_⟩
        simp only [RowKit.intOf]
        omega
      · have k2 : ¬ (i : Int) < (m.length : Int) := by omega
        have la := getD_lt hl i
        have lb := getD_lt hm i
        have lb0 := getD_none m i (by omega)
        have x1 : wr.cell? ⟨b1, o1 + i, none⟩ = some (.int .u32 ((l[i]?.getD 0 : Nat) : Int)) := (hbw.cell (p := ⟨b1, o1 + i, none⟩) hb1).trans (hc1 i (by omega))
        have STEP := fun (d c2 : Nat) (out : Value) (w2 : World) (h1 : l[i]?.getD 0 + 65536 * c2 = d + c + m[i]?.getD 0) (h2 : d < 65536) (h3 : c2 ≤ 1) => sub_step (w := w) (d := d) (c2 := c2) (out := out) (wr := w2) HI.out HLT.out HV.out h1 h2 h3 g1
        have HS := (show Hid _ from STEP)
        clear STEP
        generalize l[i]?.getD 0 = a at *
        generalize m[i]?.getD 0 = b at *
        obtain ⟨x, hxx⟩ : ∃ x, x = a + 65536 - c - b := ⟨_, rfl⟩
        obtain ⟨d, hd⟩ : ∃ d, d = x % 65536 := ⟨_, rfl⟩
        obtain ⟨q, hq⟩ : ∃ q, q = 1 - x / 65536 := ⟨_, rfl⟩
        have HDQ : Hid (a + 65536 * q = d + c + b ∧ d < 65536 ∧ q ≤ 1) := (by omega : a + 65536 * q = d + c + b ∧ d < 65536 ∧ q ≤ 1)
        have HX : Hid (x = a + 65536 - c - b ∧ d = x % 65536 ∧ q = 1 - x / 65536) := ⟨hxx, hd, hq⟩
        clear hxx hd hq hc1 hc2
        go_wp2_with (first | (at_builtin; refine app32 rfl _ _ rfl w.heap.size _ _ _ w _ _ hown rfl rfl (by omega) (Nat.le_refl _) hbw ?_; intro v' w2 hown' hbw'))
        obtain ⟨q1, q2, q3⟩ := HDQ.out
        obtain ⟨q4, q5, q6⟩ := HX.out
        have f1 : ((a : Int) + 65536 - (c : Int)) % 65536 = (d : Int) := by omega
        have f2 : 1 - ((a : Int) + 65536 - (c : Int)) / 65536 = (q : Int) := by omega
        rw [f1] at hown'
        rw [f2]
        refine ⟨HS.out d q v' w2 q1 q2 q3 hown' hbw', ?_⟩
        simp only [RowKit.intOf]
        omega
    · have k1 : ¬ (i : Int) < (l.length : Int) := by omega
      have HF : Hid (val done = val l - val m) := by
        show val done = val l - val m
        have h1 := HV.out
        rw [List.drop_of_length_le (by omega), List.drop_of_length_le (by omega)] at h1
        simp only [val, Nat.mul_zero, Nat.add_zero] at h1
        have h2 := val_lt done HLT.out
        rw [HI.out] at h2
        rcases Nat.eq_zero_or_pos c with h3 | h3
        · rw [h3, Nat.mul_zero] at h1
          omega
        · have h4 : c = 1 := by omega
          rw [h4, Nat.mul_one] at h1
          omega
      have ct := cut_any done u5 (by omega) HLT.out wr (row_owns hown)
      go_wp2_with (first | (go_at_call 117; refine ct.mono ?_; rintro e w1 ⟨v', rfl, hv', rfl⟩))
      go_ret
      exact ⟨v', rfl, by rw [← HF.out]; exact hv', hbw⟩
set_option maxRecDepth 100000 in
set_option maxHeartbeats 4000000 in
theorem sub_10 (l m : List Nat) (b1 o1 c1 b2 o2 c2 : Nat) (ob : Option Addr) (hl : ∀ d ∈ l, d < 65536) (hm : ∀ d ∈ m, d < 65536) (hll : l.length ≤ 1000) (hml : m.length ≤ l.length) (hxy : val m ≤ val l) (w : World)
    (hb1 : b1 < w.heap.size) (hc1 : ∀ j, j < l.length → w.cell? ⟨b1, o1 + j, none⟩ = some (.int .u32 ((l[j]?.getD 0 : Nat) : Int)))
    (hm0 : m.length = 0)
    : Calls Tryz.prog 68 #[.slice (some ⟨b1, o1, none⟩) l.length c1, .slice ob 0 c2] w fun e w' => ∃ v, e = .returned v ∧ NatIs w' v (val l - val m) ∧ Below w.heap.size w w' := by
  go_enter Tryz.func68, Tryz.ntmps68
  go_wp2
  go_loopw [5, 6, 7] (fun out borrow vi wr => SubR w l m out borrow vi wr) (fun _ _ vi _ => l.length - (RowKit.intOf vi).toNat)
  case atStart => exact ⟨0, 0, [], World.ownsRow_nil _ _ _ _, rfl, rfl, rfl, by omega, by omega, by simp, by simp [val], Below.refl _ _⟩
  case round =>
    obtain ⟨i, c, done, hown, rfl, rfl, hi, hc, hil, hlt, hval, hbw⟩ := hrel
    have HV : Hid (val done + 65536 ^ i * val (l.drop i) + val m = val l + 65536 ^ i * (c + val (m.drop i))) := hval
    have HLT : Hid (∀ d ∈ done, d < 65536) := hlt
    have HI : Hid (done.length = i) := hi
    have hdl : done.length ≤ 3000 := by omega
    clear hval hlt hi
    by_cases g1 : i < l.length
    · have k1 : (i : Int) < (l.length : Int) := by omega
      by_cases g2 : i < m.length
      · omega
      · have k2 : ¬ (i : Int) < 0 := by omega
        have la := getD_lt hl i
        have lb := getD_lt hm i
        have lb0 := getD_none m i (by omega)
        have x1 : wr.cell? ⟨b1, o1 + i, none⟩ = some (.int .u32 ((l[i]?.getD 0 : Nat) : Int)) := (hbw.cell (p := ⟨b1, o1 + i, none⟩) hb1).trans (hc1 i (by omega))
        have STEP := fun (d c2 : Nat) (out : Value) (w2 : World) (h1 : l[i]?.getD 0 + 65536 * c2 = d + c + m[i]?.getD 0) (h2 : d < 65536) (h3 : c2 ≤ 1) => sub_step (w := w) (d := d) (c2 := c2) (out := out) (wr := w2) HI.out HLT.out HV.out h1 h2 h3 g1
        have HS := (show Hid _ from STEP)
        clear STEP
        generalize l[i]?.getD 0 = a at *
        generalize m[i]?.getD 0 = b at *
        obtain ⟨x, hxx⟩ : ∃ x, x = a + 65536 - c - b := ⟨_, rfl⟩
        obtain ⟨d, hd⟩ : ∃ d, d = x % 65536 := ⟨_, rfl⟩
        obtain ⟨q, hq⟩ : ∃ q, q = 1 - x / 65536 := ⟨_, rfl⟩
        have HDQ : Hid (a + 65536 * q = d + c + b ∧ d < 65536 ∧ q ≤ 1) := (by omega : a + 65536 * q = d + c + b ∧ d < 65536 ∧ q ≤ 1)
        have HX : Hid (x = a + 65536 - c - b ∧ d = x % 65536 ∧ q = 1 - x / 65536) := ⟨hxx, hd, hq⟩
        clear hxx hd hq hc1
        go_wp2_with (first | (at_builtin; refine app32 rfl _ _ rfl w.heap.size _ _ _ w _ _ hown rfl rfl (by omega) (Nat.le_refl _) hbw ?_; intro v' w2 hown' hbw'))
        obtain ⟨q1, q2, q3⟩ := HDQ.out
        obtain ⟨q4, q5, q6⟩ := HX.out
        have f1 : ((a : Int) + 65536 - (c : Int)) % 65536 = (d : Int) := by omega
        have f2 : 1 - ((a : Int) + 65536 - (c : Int)) / 65536 = (q : Int) := by omega
        rw [f1] at hown'
        rw [f2]
        refine ⟨HS.out d q v' w2 q1 q2 q3 hown' hbw', ?_⟩
        simp only [RowKit.intOf]
        omega
    · have k1 : ¬ (i : Int) < (l.length : Int) := by omega
      have HF : Hid (val done = val l - val m) := by
        show val done = val l - val m
        have h1 := HV.out
        rw [List.drop_of_length_le (by omega), List.drop_of_length_le (by omega)] at h1
        simp only [val, Nat.mul_zero, Nat.add_zero] at h1
        have h2 := val_lt done HLT.out
        rw [HI.out] at h2
        rcases Nat.eq_zero_or_pos c with h3 | h3
        · rw [h3, Nat.mul_zero] at h1
          omega
        · have h4 : c = 1 := by omega
          rw [h4, Nat.mul_one] at h1
          omega
      have ct := cut_any done u5 (by omega) HLT.out wr (row_owns hown)
      go_wp2_with (first | (go_at_call 117; refine ct.mono ?_; rintro e w1 ⟨v', rfl, hv', rfl⟩))
      go_ret
      exact ⟨v', rfl, by rw [← HF.out]; exact hv', hbw⟩
theorem sub_00 (oa ob : Option Addr) (c1 c2 : Nat) (w : World) : Calls Tryz.prog 68 #[.slice oa 0 c1, .slice ob 0 c2] w fun e w' => ∃ v, e = .returned v ∧ NatIs w' v 0 ∧ Below w.heap.size w w' := by
  have ct := cut_any [] (.slice none 0 0) (by simp) (by simp) w (.inl ⟨⟨none, 0, rfl, by omega⟩, rfl⟩)
  go_enter Tryz.func68, Tryz.ntmps68
  go_wp2
  refine wp_loop_once ?_
  go_wp2_with (first | (go_at_call 117; refine ct.mono ?_; rintro e w1 ⟨v', rfl, hv', rfl⟩))
  go_ret
  exact ⟨v', rfl, hv', Below.refl _ _⟩
/-- **Sub.** -/
theorem sub_any (u v : Value) (x y : Nat) (w : World) (hx : NatIs w u x) (hy : NatIs w v y) (bx : x < pw 1000) (hxy : y ≤ x) :
    Calls Tryz.prog 68 #[u, v] w fun e w' => ∃ r, e = .returned r ∧ NatIs w' r (x - y) ∧ Below w.heap.size w w' := by
  obtain ⟨l, hl1, hl2, rfl⟩ := hx
  obtain ⟨m, hm1, hm2, rfl⟩ := hy
  have l1 := len_le hl2 bx
  have l2 : m.length ≤ l.length := by
    rcases Nat.lt_or_ge l.length m.length with h | h
    · have := len_lt hl2 hm2 h
      omega
    · exact h
  rcases hl1 with ⟨⟨oa, c1, rfl, _⟩, hle⟩ | ⟨b1, o1, c1, rfl, _, hb1, hc1⟩
  · subst hle
    have hme : m = [] := List.eq_nil_of_length_eq_zero (by simpa using l2)
    subst hme
    obtain ⟨ob, c2, rfl⟩ := hm1.slice
    exact sub_00 oa ob c1 c2 w
  · rcases hm1 with ⟨⟨ob, c2, rfl, _⟩, hme⟩ | ⟨b2, o2, c2, rfl, _, hb2, hc2⟩
    · exact sub_10 l m b1 o1 c1 0 0 c2 ob hl2.1 hm2.1 l1 l2 hxy w hb1 hc1 (by rw [hme]; rfl)
    · exact sub_11 l m b1 o1 c1 b2 o2 c2 none hl2.1 hm2.1 l1 l2 hxy w hb1 hc1 hb2 hc2
end Go.Proofs.YtellndmbllmjgaaGreatDoor
/- A row that is written in place; what a product's rows count. -/
set_option linter.unusedVariables false
namespace Go.Proofs.YtellndmbllmjgaaGreatDoor
open Go.RowKit Go.Shelf Go.Sort Fs Fl

theorem val_set : ∀ (L : List Nat) (j d : Nat), j < L.length → val (L.set j d) + 65536 ^ j * L[j]?.getD 0 = val L + 65536 ^ j * d
  | [], j, d, h => absurd h (by simp)
  | a :: L, 0, d, h => by
    simp only [List.set_cons_zero, val, Nat.pow_zero, Nat.one_mul, List.getElem?_cons_zero, Option.getD_some]
    omega
  | a :: L, j + 1, d, h => by
    have ih := val_set L j d (by simpa using h)
    simp only [List.set_cons_succ, val, List.getElem?_cons_succ, Nat.pow_succ]
    generalize L[j]?.getD 0 = x at *
    generalize val (L.set j d) = y at *
    generalize val L = z at *
    generalize 65536 ^ j = P at *
    grind
/-- Block g holds the digits L. -/
def OutIs (w : World) (g : Nat) (L : List Nat) : Prop := w.heap[g]? = some (Obj.cells (L.map dv).toArray 108 (0, 0))
theorem OutIs.cell {w : World} {g : Nat} {L : List Nat} (h : OutIs w g L) (j : Nat) (hj : j < L.length) : w.cell? ⟨g, j, none⟩ = some (.int .u32 ((L[j]?.getD 0 : Nat) : Int)) := by
  have : (L.map dv).toArray[j]? = some (dv (L[j]?.getD 0)) := by
    rw [List.getElem?_toArray, List.getElem?_map, List.getElem?_eq_getElem hj]
    rfl
  have h' : w.heap[g]? = some (Obj.cells (L.map dv).toArray 108 (0, 0)) := h
  have e : w.cell? ⟨g, j, none⟩ = (L.map dv).toArray[j]? := by
    unfold World.cell?
    simp only [h']
    rfl
  rw [e]
  exact this
theorem OutIs.frozen {w : World} {g : Nat} {L : List Nat} (h : OutIs w g L) (j : Nat) : w.frozen? ⟨g, j, none⟩ = false := by
  simp [World.frozen?, show w.heap[g]? = _ from h]
theorem OutIs.set {w : World} {g : Nat} {L : List Nat} (h : OutIs w g L) (j d : Nat) : OutIs (w.setCell ⟨g, j, none⟩ (.int .u32 (d : Int))) g (L.set j d) := by
  unfold OutIs
  rw [setCell_eq]
  simp only [mapBlock, Array.getElem?_modify, if_true]
  rw [show w.heap[g]? = _ from h]
  simp [onCells, List.map_set, dv]
theorem OutIs.drewN {w : World} {g n : Nat} {L : List Nat} (h : OutIs w g L) : OutIs (w.drewN n) g L := h
theorem OutIs.row {w : World} {g cap : Nat} {L : List Nat} (h : OutIs w g L) (hc : L.length ≤ cap) (hm : cap ≤ 9223372036854775807) : Row32 w (.slice (some ⟨g, 0, none⟩) L.length cap) L := by
  refine .inr ⟨g, 0, cap, rfl, ⟨hc, hm⟩, lt_of_get h, fun j hj => ?_⟩
  rw [Nat.zero_add]
  exact h.cell j hj
theorem set_lt {L : List Nat} {j d : Nat} (h : ∀ x ∈ L, x < 65536) (hd : d < 65536) : ∀ x ∈ L.set j d, x < 65536 := by
  intro x hx
  rcases List.mem_or_eq_of_mem_set hx with h1 | h1
  · exact h x h1
  · rw [h1]; exact hd
theorem take_val (m : List Nat) (k : Nat) (h : k < m.length) : val (m.take (k + 1)) = val (m.take k) + 65536 ^ k * m[k]?.getD 0 := by
  rw [List.take_succ_eq_append_getElem h, val_append, List.length_take, Nat.min_eq_left (Nat.le_of_lt h), List.getElem?_eq_getElem h]
  simp [val]
/-- One digit more of a product's row. -/
theorem mul_in {L0 L m : List Nat} {i k a c d q V : Nat} (hj : i + k < L.length) (hk : k < m.length) (hv : val L + 65536 ^ (i + k) * c = V + 65536 ^ i * (a * val (m.take k))) (hx : d + 65536 * q = L[i + k]?.getD 0 + a * m[k]?.getD 0 + c) :
    val (L.set (i + k) d) + 65536 ^ (i + (k + 1)) * q = V + 65536 ^ i * (a * val (m.take (k + 1))) := by
  have h1 := val_set L (i + k) d hj
  rw [take_val m k hk]
  have e1 : 65536 ^ (i + (k + 1)) = 65536 ^ (i + k) * 65536 := by rw [← Nat.add_assoc, Nat.pow_succ]
  have e2 : 65536 ^ (i + k) = 65536 ^ i * 65536 ^ k := Nat.pow_add ..
  rw [e1]
  generalize L[i + k]?.getD 0 = x at *
  generalize m[k]?.getD 0 = b at *
  generalize val (L.set (i + k) d) = y at *
  generalize val L = z at *
  generalize val (m.take k) = t at *
  have e3 : 65536 ^ (i + k) * (d + 65536 * q) = 65536 ^ (i + k) * (x + a * b + c) := by rw [hx]
  rw [e2] at *
  generalize 65536 ^ i = P at *
  generalize 65536 ^ k = R at *
  grind
/-- The row's end. -/
theorem mul_out {L l m : List Nat} {i c V : Nat} (hi : i < l.length) (hj : i + m.length < L.length) (h0 : L[i + m.length]?.getD 0 = 0) (hv : val L + 65536 ^ (i + m.length) * c = val (l.take i) * val m + 65536 ^ i * (l[i]?.getD 0 * val (m.take m.length))) :
    val (L.set (i + m.length) c) = val (l.take (i + 1)) * val m := by
  have h1 := val_set L (i + m.length) c hj
  rw [h0, Nat.mul_zero, Nat.add_zero] at h1
  rw [h1, hv, take_val l i hi, List.take_length]
  generalize val (l.take i) = x
  generalize val m = y
  grind
end Go.Proofs.YtellndmbllmjgaaGreatDoor
/- Mul. -/
set_option linter.unusedVariables false
namespace Go.Proofs.YtellndmbllmjgaaGreatDoor
open Go.RowKit Go.Shelf Go.Sort Fs Fl

theorem out_of_own {w : World} {base g n : Nat} {xs : List Value} (h : w.ownsRow base 108 1 (.slice (some ⟨g, 0, none⟩) n n) n xs) (hx : xs = (List.replicate n 0).map dv) : OutIs w g (List.replicate n 0) := by
  rcases h.2 with ⟨e, _⟩ | ⟨g', cap, cur, e, _, hg, hle, _, hsz, htk⟩
  · cases e
  · cases e
    unfold OutIs
    rw [hg]
    have : cur.toList = xs := by
      rw [← htk, List.take_of_length_le (by rw [Array.length_toList, hsz]; exact Nat.le_refl _)]
    have h2 : cur = xs.toArray := by rw [← this]
    rw [h2, hx]
theorem made_zero (n : Nat) : (madeCells (Value.int .u32 0).cells (n * 1)).toList = (List.replicate n 0).map dv := by
  simp only [madeCells, Value.cells, Nat.mul_one]
  apply List.ext_getElem?
  intro i
  simp [List.getElem?_replicate, Nat.mod_one]
  split <;> simp_all [dv]
/-- What holds ahead of each of Mul's rows. -/
def MulR (w : World) (l m : List Nat) (n : Nat) (vi : Value) (wr : World) : Prop :=
  ∃ (i : Nat) (L : List Nat), vi = .int .i64 (i : Int) ∧ i ≤ l.length ∧ OutIs wr w.heap.size L ∧ L.length = n ∧ (∀ d ∈ L, d < 65536) ∧ (∀ j, i + m.length ≤ j → L[j]?.getD 0 = 0) ∧ val L = val (l.take i) * val m ∧ Below w.heap.size w wr
/-- And within a row. -/
def MulI (w : World) (l m : List Nat) (n i : Nat) (vc vk : Value) (wr : World) : Prop :=
  ∃ (k c : Nat) (L : List Nat), vk = .int .i64 (k : Int) ∧ vc = .int .u32 (c : Int) ∧ c < 65536 ∧ k ≤ m.length ∧ OutIs wr w.heap.size L ∧ L.length = n ∧ (∀ d ∈ L, d < 65536) ∧ (∀ j, i + m.length ≤ j → L[j]?.getD 0 = 0) ∧ val L + 65536 ^ (i + k) * c = val (l.take i) * val m + 65536 ^ i * (l[i]?.getD 0 * val (m.take k)) ∧ Below w.heap.size w wr
set_option maxRecDepth 100000 in
set_option maxHeartbeats 2000000 in
theorem mul_11 (l m : List Nat) (b1 o1 c1 b2 o2 c2 : Nat) (hl : ∀ d ∈ l, d < 65536) (hm : ∀ d ∈ m, d < 65536) (hll : l.length ≤ 1000) (hml : m.length ≤ 1000) (w : World)
    (hb1 : b1 < w.heap.size) (hc1 : ∀ j, j < l.length → w.cell? ⟨b1, o1 + j, none⟩ = some (.int .u32 ((l[j]?.getD 0 : Nat) : Int)))
    (hb2 : b2 < w.heap.size) (hc2 : ∀ j, j < m.length → w.cell? ⟨b2, o2 + j, none⟩ = some (.int .u32 ((m[j]?.getD 0 : Nat) : Int))) :
    Calls Tryz.prog 65 #[.slice (some ⟨b1, o1, none⟩) l.length c1, .slice (some ⟨b2, o2, none⟩) m.length c2] w fun e w' => ∃ v, e = .returned v ∧ NatIs w' v (val l * val m) ∧ Below w.heap.size w w' := by
  obtain ⟨i0, hi, hz0, hz1, hz2⟩ := info_parts info108
  obtain ⟨n, hn⟩ : ∃ n : Nat, (l.length : Int) + (m.length : Int) = (n : Int) := ⟨l.length + m.length, by omega⟩
  have HN : Hid (n = l.length + m.length) := (by omega : n = l.length + m.length)
  have hn2 : n ≤ 2000 := by omega
  go_enter Tryz.func65, Tryz.ntmps65
  go_wp2_with (first | (refine wpList_make_full _ rfl _ _ 53 rfl w.heap.size 108 i0 (.int .u32 0) 1 Tryz.underlying53 hi hz0 hz1 .i64 .i64 _ _ n rfl rfl rfl rfl (by rw [hz2]; omega) (by unfold maxLen; omega) (Nat.le_refl _) ?_; intro w1 hown0 hg0))
  have hb0 : Below w.heap.size w w1 := (Below.refl _ _).grown hg0 (Nat.le_refl _) (fun k e => by cases e)
  have hO0 := out_of_own hown0 (made_zero n)
  clear hown0 hg0
  go_loopw [6] (fun vi wr => MulR w l m n vi wr) (fun vi _ => l.length - (RowKit.intOf vi).toNat)
  case atStart =>
    refine ⟨0, List.replicate n 0, rfl, Nat.zero_le _, hO0, by simp, ?_, ?_, ?_, hb0⟩
    · intro d hd
      rw [List.eq_of_mem_replicate hd]
      omega
    · intro j _
      rw [List.getElem?_replicate]
      split <;> rfl
    · rw [List.take_zero, val_zero _ (fun d hd => List.eq_of_mem_replicate hd)]
      simp [val]
  case round =>
    obtain ⟨i, L, rfl, hil, hO, hLn, hLd, hLz, hLv, hbw⟩ := hrel
    have HO : Hid (OutIs wr w.heap.size L) := hO
    have HL : Hid (L.length = n ∧ (∀ d ∈ L, d < 65536) ∧ (∀ j, i + m.length ≤ j → L[j]?.getD 0 = 0) ∧ val L = val (l.take i) * val m) := ⟨hLn, hLd, hLz, hLv⟩
    clear hO hLn hLd hLz hLv hO0 hb0
    by_cases g1 : i < l.length
    · have k1 : (i : Int) < (l.length : Int) := by omega
      go_wp2
      go_loopw [7, 8] (fun vc vk wi => MulI w l m n i vc vk wi) (fun _ vk _ => m.length - (RowKit.intOf vk).toNat)
      case atStart =>
        obtain ⟨a1, a2, a3, a4⟩ := HL.out
        exact ⟨0, 0, L, rfl, rfl, by omega, Nat.zero_le _, HO.out, a1, a2, a3, by simp [val, a4], hbw⟩
      case round =>
        obtain ⟨k, c, L2, rfl, rfl, hc, hk, hO2, hn2', hd2, hz2', hv2, hbw2⟩ := hrel
        by_cases g2 : k < m.length
        · have k2 : (k : Int) < (m.length : Int) := by omega
          have la := getD_lt hl i
          have lb := getD_lt hm k
          have lc := getD_lt hd2 (i + k)
          have hik : i + k < L2.length := by have := HN.out; omega
          have y1 := (hbw2.cell (p := ⟨b1, o1 + i, none⟩) hb1).trans (hc1 i g1)
          have y2 := (hbw2.cell (p := ⟨b2, o2 + k, none⟩) hb2).trans (hc2 k g2)
          have y3 := hO2.cell (i + k) hik
          have y4 := hO2.frozen (i + k)
          obtain ⟨sk, hsk⟩ : ∃ sk, sk = i + k := ⟨_, rfl⟩
          have STEP := fun d q (hx : d + 65536 * q = L2[i + k]?.getD 0 + l[i]?.getD 0 * m[k]?.getD 0 + c) => mul_in (L0 := []) hik g2 hv2 hx
          have HST := (show Hid _ from STEP)
          have HO2 : Hid (OutIs wr w.heap.size L2 ∧ L2.length = n ∧ (∀ d ∈ L2, d < 65536) ∧ (∀ j, i + m.length ≤ j → L2[j]?.getD 0 = 0)) := ⟨hO2, hn2', hd2, hz2'⟩
          have hab : l[i]?.getD 0 * m[k]?.getD 0 ≤ 65535 * 65535 := Nat.mul_le_mul (by omega) (by omega)
          clear STEP hO2 hn2' hd2 hz2' hv2 hc1 hc2
          generalize hga : l[i]?.getD 0 = a at *
          have HA : Hid (l[i]?.getD 0 = a) := hga
          clear hga
          generalize m[k]?.getD 0 = b at *
          generalize L2[i + k]?.getD 0 = o at *
          obtain ⟨p, hp⟩ : ∃ p, p = a * b := ⟨_, rfl⟩
          have e0 : (a : Int) * (b : Int) = (p : Int) := by rw [hp, Int.natCast_mul]
          rw [← hp] at hab
          have HP : Hid (p = a * b) := hp
          clear hp
          have e1 : IntKind.u32.wrap (p : Int) = (p : Int) := by rw [IntKind.wrap_u32]; omega
          obtain ⟨op, hop⟩ : ∃ op, op = o + p := ⟨_, rfl⟩
          have e2 : IntKind.u32.wrap ((o : Int) + (p : Int)) = (op : Int) := by rw [IntKind.wrap_u32]; omega
          obtain ⟨x, hx⟩ : ∃ x, x = o + p + c := ⟨_, rfl⟩
          have e3 : IntKind.u32.wrap ((op : Int) + (c : Int)) = (x : Int) := by rw [IntKind.wrap_u32]; omega
          have HX : Hid (x = o + p + c) := hx
          have hxl : x < 4294967296 := by omega
          have ek : (i : Int) + (k : Int) = (sk : Int) := by omega
          have k3 : (sk : Int) < (n : Int) := by have := HO2.out.2.1; omega
          have HSK : Hid (sk = i + k) := hsk
          rw [← hsk] at y3 y4
          clear hx hop hsk
          go_wp2
          go_quiet (fail)
          go_wp2
          obtain ⟨d, hd⟩ : ∃ d, d = x % 65536 := ⟨_, rfl⟩
          obtain ⟨q, hq⟩ : ∃ q, q = x / 65536 := ⟨_, rfl⟩
          have f1 : (x : Int) % 65536 = (d : Int) := by omega
          have f2 : (x : Int) / 65536 = (q : Int) := by omega
          rw [f1, f2]
          obtain ⟨r1, r2, r3, r4⟩ := HO2.out
          have hsk := HSK.out
          refine ⟨⟨k + 1, q, L2.set sk d, by simp, rfl, by omega, by omega, OutIs.set (OutIs.drewN r1) sk d, by rw [List.length_set]; exact r2, set_lt r3 (by omega), ?_, ?_, (below_drewN hbw2).setCell (Nat.le_refl _) _⟩, ?_⟩
          · intro j hj
            rw [List.getElem?_set_ne (by omega)]
            exact r4 j hj
          · rw [hsk, HA.out]
            refine HST.out d q ?_
            have h1 := HX.out
            have h2 := HP.out
            rw [← h2]
            omega
          · simp only [RowKit.intOf]
            omega
        · obtain rfl : k = m.length := by omega
          have k2 : ¬ (m.length : Int) < (m.length : Int) := by omega
          obtain ⟨si, hsi⟩ : ∃ si, si = i + m.length := ⟨_, rfl⟩
          have hik : i + m.length < L2.length := by have := HN.out; omega
          have y3 := hO2.cell (i + m.length) hik
          have y4 := hO2.frozen (i + m.length)
          have hz := hz2' (i + m.length) (Nat.le_refl _)
          have fin := mul_out (V := 0) g1 hik hz hv2
          rw [hz] at y3
          have HO2 : Hid (OutIs wr w.heap.size L2 ∧ L2.length = n ∧ (∀ d ∈ L2, d < 65536) ∧ (∀ j, i + m.length ≤ j → L2[j]?.getD 0 = 0)) := ⟨hO2, hn2', hd2, hz2'⟩
          have HFI : Hid (val (L2.set (i + m.length) c) = val (l.take (i + 1)) * val m) := fin
          have e2 : IntKind.u32.wrap (c : Int) = (c : Int) := by rw [IntKind.wrap_u32]; omega
          have ek : (i : Int) + (m.length : Int) = (si : Int) := by omega
          have k3 : (si : Int) < (n : Int) := by omega
          have HSI : Hid (si = i + m.length) := hsi
          rw [← hsi] at y3 y4
          clear hO2 hn2' hd2 hz2' hv2 fin hz hsi hc1 hc2
          go_wp2
          obtain ⟨r1, r2, r3, r4⟩ := HO2.out
          have hsi := HSI.out
          refine ⟨⟨i + 1, L2.set si c, by simp, by omega, OutIs.set r1 si c, by rw [List.length_set]; exact r2, set_lt r3 hc, ?_, ?_, hbw2.setCell (Nat.le_refl _) _⟩, ?_⟩
          · intro j hj
            rw [List.getElem?_set_ne (by omega)]
            exact r4 j (by omega)
          · rw [hsi]
            exact HFI.out
          · simp only [RowKit.intOf]
            omega
    · have k1 : ¬ (i : Int) < (l.length : Int) := by omega
      obtain ⟨a1, a2, a3, a4⟩ := HL.out
      have HF : Hid (val L = val l * val m) := by
        show val L = val l * val m
        rw [a4, List.take_of_length_le (by omega)]
      have hrow := HO.out.row (cap := n) (by omega) (by omega)
      rw [a1] at hrow
      have ct := cut_any L (.slice (some ⟨w.heap.size, 0, none⟩) n n) (by omega) a2 wr hrow
      clear hrow a1 a2 a3 a4
      go_wp2_with (first | (go_at_call 117; refine ct.mono ?_; rintro e w1 ⟨v', rfl, hv', rfl⟩))
      go_ret
      exact ⟨v', rfl, by rw [← HF.out]; exact hv', hbw⟩
end Go.Proofs.YtellndmbllmjgaaGreatDoor
/- Mul, of any two; Power. -/
set_option linter.unusedVariables false
namespace Go.Proofs.YtellndmbllmjgaaGreatDoor
open Go.RowKit Go.Shelf Go.Sort Fs Fl

theorem zeros_lt (n : Nat) : ∀ d ∈ List.replicate n 0, d < 65536 := by
  intro d hd
  rw [List.eq_of_mem_replicate hd]
  omega
theorem zeros_val (n : Nat) : val (List.replicate n 0) = 0 := val_zero _ (fun d hd => List.eq_of_mem_replicate hd)
set_option maxRecDepth 100000 in
set_option maxHeartbeats 1000000 in
theorem mul_0 (k : Nat) (hk : k ≤ 1000) (oa ob : Option Addr) (c1 c2 : Nat) (w : World) :
    Calls Tryz.prog 65 #[.slice oa 0 c1, .slice ob k c2] w fun e w' => ∃ v, e = .returned v ∧ NatIs w' v 0 ∧ Below w.heap.size w w' := by
  obtain ⟨i0, hi, hz0, hz1, hz2⟩ := info_parts info108
  go_enter Tryz.func65, Tryz.ntmps65
  go_wp2_with (first | (refine wpList_make_full _ rfl _ _ 53 rfl w.heap.size 108 i0 (.int .u32 0) 1 Tryz.underlying53 hi hz0 hz1 .i64 .i64 _ _ k rfl rfl (by go_num) (by go_num) (by rw [hz2]; omega) (by unfold maxLen; omega) (Nat.le_refl _) ?_; intro w1 hown0 hg0))
  have hb0 : Below w.heap.size w w1 := (Below.refl _ _).grown hg0 (Nat.le_refl _) (fun k e => by cases e)
  have hO0 := out_of_own hown0 (made_zero k)
  clear hown0 hg0
  refine wp_loop_once ?_
  have hrow := hO0.row (cap := k) (by simp) (by omega)
  rw [List.length_replicate] at hrow
  have ct := cut_any (List.replicate k 0) (.slice (some ⟨w.heap.size, 0, none⟩) k k) (by simp; omega) (zeros_lt k) w1 hrow
  rw [zeros_val] at ct
  clear hrow hO0
  go_wp2_with (first | (go_at_call 117; refine ct.mono ?_; rintro e w2 ⟨v', rfl, hv', rfl⟩))
  go_ret
  exact ⟨v', rfl, hv', hb0⟩
set_option maxRecDepth 100000 in
set_option maxHeartbeats 1000000 in
theorem mul_x0 (l : List Nat) (b1 o1 c1 : Nat) (ob : Option Addr) (c2 : Nat) (hl : ∀ d ∈ l, d < 65536) (hll : l.length ≤ 1000) (w : World)
    (hb1 : b1 < w.heap.size) (hc1 : ∀ j, j < l.length → w.cell? ⟨b1, o1 + j, none⟩ = some (.int .u32 ((l[j]?.getD 0 : Nat) : Int))) :
    Calls Tryz.prog 65 #[.slice (some ⟨b1, o1, none⟩) l.length c1, .slice ob 0 c2] w fun e w' => ∃ v, e = .returned v ∧ NatIs w' v 0 ∧ Below w.heap.size w w' := by
  obtain ⟨i0, hi, hz0, hz1, hz2⟩ := info_parts info108
  generalize hn : l.length = n at *
  clear hn
  go_enter Tryz.func65, Tryz.ntmps65
  go_wp2_with (first | (refine wpList_make_full _ rfl _ _ 53 rfl w.heap.size 108 i0 (.int .u32 0) 1 Tryz.underlying53 hi hz0 hz1 .i64 .i64 _ _ n rfl rfl (by go_num) (by go_num) (by rw [hz2]; omega) (by unfold maxLen; omega) (Nat.le_refl _) ?_; intro w1 hown0 hg0))
  have hb0 : Below w.heap.size w w1 := (Below.refl _ _).grown hg0 (Nat.le_refl _) (fun k e => by cases e)
  have hO0 := out_of_own hown0 (made_zero n)
  clear hown0 hg0
  go_loopw [6] (fun vi wr => ∃ i : Nat, vi = .int .i64 (i : Int) ∧ i ≤ n ∧ OutIs wr w.heap.size (List.replicate n 0) ∧ Below w.heap.size w wr) (fun vi _ => n - (RowKit.intOf vi).toNat)
  case atStart => exact ⟨0, rfl, Nat.zero_le _, hO0, hb0⟩
  case round =>
    obtain ⟨i, rfl, hil, hO, hbw⟩ := hrel
    clear hO0 hb0
    by_cases g1 : i < n
    · have k1 : (i : Int) < (n : Int) := by omega
      have y3 := hO.cell i (by simp; exact g1)
      have y4 := hO.frozen i
      have yz : (List.replicate n 0)[i]?.getD 0 = 0 := by rw [List.getElem?_replicate]; split <;> rfl
      rw [yz] at y3
      have HO : Hid (OutIs wr w.heap.size (List.replicate n 0)) := hO
      clear hO hc1 yz
      go_wp2
      refine wp_loop_once ?_
      go_wp2
      refine ⟨⟨i + 1, by simp, by omega, ?_, hbw.setCell (Nat.le_refl _) _⟩, ?_⟩
      · have := OutIs.set HO.out i 0
        rw [List.set_replicate_self] at this
        exact this
      · simp only [RowKit.intOf]
        omega
    · have k1 : ¬ (i : Int) < (n : Int) := by omega
      have hrow := hO.row (cap := n) (by simp) (by omega)
      rw [List.length_replicate] at hrow
      have ct := cut_any (List.replicate n 0) (.slice (some ⟨w.heap.size, 0, none⟩) n n) (by simp; omega) (zeros_lt n) wr hrow
      rw [zeros_val] at ct
      clear hrow hO hc1
      go_wp2_with (first | (go_at_call 117; refine ct.mono ?_; rintro e w2 ⟨v', rfl, hv', rfl⟩))
      go_ret
      exact ⟨v', rfl, hv', hbw⟩
/-- **Mul.** -/
theorem mul_any (u v : Value) (x y : Nat) (w : World) (hx : NatIs w u x) (hy : NatIs w v y) (bx : x < pw 1000) (by' : y < pw 1000) :
    Calls Tryz.prog 65 #[u, v] w fun e w' => ∃ r, e = .returned r ∧ NatIs w' r (x * y) ∧ Below w.heap.size w w' := by
  obtain ⟨l, hl1, hl2, rfl⟩ := hx
  obtain ⟨m, hm1, hm2, rfl⟩ := hy
  have l1 := len_le hl2 bx
  have l2 := len_le hm2 by'
  rcases hl1 with ⟨⟨oa, c1, rfl, _⟩, hle⟩ | ⟨b1, o1, c1, rfl, _, hb1, hc1⟩
  · subst hle
    obtain ⟨ob, c2, rfl⟩ := hm1.slice
    simpa [val] using mul_0 m.length l2 oa ob c1 c2 w
  · rcases hm1 with ⟨⟨ob, c2, rfl, _⟩, hme⟩ | ⟨b2, o2, c2, rfl, _, hb2, hc2⟩
    · subst hme
      simpa [val] using mul_x0 l b1 o1 c1 ob c2 hl2.1 l1 w hb1 hc1
    · exact mul_11 l m b1 o1 c1 b2 o2 c2 hl2.1 hm2.1 l1 l2 w hb1 hc1 hb2 hc2
end Go.Proofs.YtellndmbllmjgaaGreatDoor
