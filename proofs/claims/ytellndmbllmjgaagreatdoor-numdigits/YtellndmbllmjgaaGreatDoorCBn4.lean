/- Add. -/
import Derived.Test.YtellndmbllmjgaaGreatDoorCBn2x
set_option linter.unusedVariables false
namespace Go.Proofs.YtellndmbllmjgaaGreatDoor
open Go.RowKit Go.Shelf Go.Sort Fs Fl

theorem drop_val (l : List Nat) (i : Nat) : val (l.drop i) = l[i]?.getD 0 + 65536 * val (l.drop (i + 1)) := by
  rcases Nat.lt_or_ge i l.length with h | h
  · rw [List.drop_eq_getElem_cons h, val, List.getElem?_eq_getElem h]
    rfl
  · rw [List.drop_of_length_le h, List.drop_of_length_le (by omega), List.getElem?_eq_none h]
    rfl
theorem getD_lt {l : List Nat} (h : ∀ d ∈ l, d < 65536) (i : Nat) : l[i]?.getD 0 < 65536 := by
  rcases Nat.lt_or_ge i l.length with h1 | h1
  · rw [List.getElem?_eq_getElem h1]
    exact h _ (List.getElem_mem _)
  · rw [List.getElem?_eq_none h1]
    simp
theorem getD_none (l : List Nat) (i : Nat) (h : l.length ≤ i) : l[i]?.getD 0 = 0 := by
  rw [List.getElem?_eq_none h]
  rfl
/-- What holds ahead of each round of Add. -/
def AddR (w : World) (l m : List Nat) (out carry vi : Value) (wr : World) : Prop :=
  ∃ (i c : Nat) (done : List Nat), wr.ownsRow w.heap.size 108 1 out done.length (done.map dv) ∧ carry = .int .u32 (c : Int) ∧ vi = .int .i64 (i : Int) ∧ done.length = i ∧ c ≤ 1 ∧ i ≤ l.length + m.length + 1 ∧ (∀ d ∈ done, d < 65536) ∧ val done + 65536 ^ i * (c + val (l.drop i) + val (m.drop i)) = val l + val m ∧ (i = l.length + m.length + 1 → c = 0) ∧ Below w.heap.size w wr
theorem add_step {w : World} {l m : List Nat} {done : List Nat} {i c d c2 : Nat} {out : Value} {wr : World} (hl : ∀ d ∈ l, d < 65536) (hm : ∀ d ∈ m, d < 65536) (hi : done.length = i) (hlt : ∀ d ∈ done, d < 65536)
    (hv : val done + 65536 ^ i * (c + val (l.drop i) + val (m.drop i)) = val l + val m) (hx : d + 65536 * c2 = c + l[i]?.getD 0 + m[i]?.getD 0) (hd : d < 65536) (hcc : c ≤ 1) (hc2 : c2 ≤ 1) (hgo : i < l.length ∨ i < m.length ∨ 0 < c) (hil : i ≤ l.length + m.length + 1) (hlast : i = l.length + m.length + 1 → c = 0)
    (hown : wr.ownsRow w.heap.size 108 1 out (done.length + 1) (done.map dv ++ [.int .u32 (d : Int)])) (hb : Below w.heap.size w wr) :
    AddR w l m out (.int .u32 (c2 : Int)) (.int .i64 ((i : Int) + 1)) wr := by
  refine ⟨i + 1, c2, done ++ [d], ?_, rfl, by simp, by simp [hi], hc2, by omega, ?_, ?_, ?_, hb⟩
  · rw [List.length_append, List.map_append]
    exact hown
  · intro z hz
    rcases List.mem_append.1 hz with h | h
    · exact hlt z h
    · rw [List.mem_singleton.1 h]
      exact hd
  · rw [drop_val l i, drop_val m i] at hv
    rw [val_append, hi, ← hv, Nat.pow_succ]
    simp only [val]
    have : c = d + 65536 * c2 - l[i]?.getD 0 - m[i]?.getD 0 := by omega
    generalize val (l.drop (i + 1)) = L at *
    generalize val (m.drop (i + 1)) = M at *
    generalize val done = D at *
    generalize 65536 ^ i = P at *
    generalize l[i]?.getD 0 = a at *
    generalize m[i]?.getD 0 = b at *
    have e : c + (a + 65536 * L) + (b + 65536 * M) = d + 65536 * c2 + 65536 * L + 65536 * M := by omega
    rw [e]
    grind
  · intro h
    have h1 : i = l.length + m.length := by omega
    have a0 := getD_none l i (by omega)
    have b0 := getD_none m i (by omega)
    omega
set_option maxRecDepth 100000 in
set_option maxHeartbeats 4000000 in
theorem add_11 (l m : List Nat) (b1 o1 c1 b2 o2 c2 : Nat) (oa ob : Option Addr) (hl : ∀ d ∈ l, d < 65536) (hm : ∀ d ∈ m, d < 65536) (hll : l.length ≤ 1000) (hml : m.length ≤ 1000) (w : World)
    (hb1 : b1 < w.heap.size) (hc1 : ∀ j, j < l.length → w.cell? ⟨b1, o1 + j, none⟩ = some (.int .u32 ((l[j]?.getD 0 : Nat) : Int)))
    (hb2 : b2 < w.heap.size) (hc2 : ∀ j, j < m.length → w.cell? ⟨b2, o2 + j, none⟩ = some (.int .u32 ((m[j]?.getD 0 : Nat) : Int)))
    : Calls Tryz.prog 69 #[.slice (some ⟨b1, o1, none⟩) l.length c1, .slice (some ⟨b2, o2, none⟩) m.length c2] w fun e w' => ∃ v, e = .returned v ∧ NatIs w' v (val l + val m) ∧ Below w.heap.size w w' := by
  go_enter Tryz.func69, Tryz.ntmps69
  go_wp2
  go_loopw [5, 6, 7] (fun out carry vi wr => AddR w l m out carry vi wr) (fun _ carry vi _ => 2 * (l.length + m.length - (RowKit.intOf vi).toNat) + (RowKit.intOf carry).toNat)
  case atStart => exact ⟨0, 0, [], World.ownsRow_nil _ _ _ _, rfl, rfl, rfl, by omega, by omega, by simp, by simp [val], by omega, Below.refl _ _⟩
  case round =>
    obtain ⟨i, c, done, hown, rfl, rfl, hi, hc, hil, hlt, hval, hlast, hbw⟩ := hrel
    have HV : Hid (val done + 65536 ^ i * (c + val (l.drop i) + val (m.drop i)) = val l + val m) := hval
    have HLT : Hid (∀ d ∈ done, d < 65536) := hlt
    have HI : Hid (done.length = i) := hi
    have HLA : Hid (i = l.length + m.length + 1 → c = 0) := hlast
    have hdl : done.length ≤ 3000 := by omega
    clear hval hlt hi hlast
    by_cases g1 : i < l.length
    · have k1 : (i : Int) < (l.length : Int) := by omega
      by_cases g2 : i < m.length
      · have k2 : (i : Int) < (m.length : Int) := by omega
        obtain ⟨x, hxx⟩ : ∃ x, x = c + l[i]?.getD 0 + m[i]?.getD 0 := ⟨_, rfl⟩
        have la := getD_lt hl i
        have lb := getD_lt hm i
        have x1 : wr.cell? ⟨b1, o1 + i, none⟩ = some (.int .u32 ((l[i]?.getD 0 : Nat) : Int)) := (hbw.cell (p := ⟨b1, o1 + i, none⟩) hb1).trans (hc1 i (by omega))
        have x2 : wr.cell? ⟨b2, o2 + i, none⟩ = some (.int .u32 ((m[i]?.getD 0 : Nat) : Int)) := (hbw.cell (p := ⟨b2, o2 + i, none⟩) hb2).trans (hc2 i (by omega))
        have STEP := fun (d c2 : Nat) (out : Value) (w2 : World) (h1 : d + 65536 * c2 = c + l[i]?.getD 0 + m[i]?.getD 0) (h2 : d < 65536) (h3 : c2 ≤ 1) => add_step (w := w) (d := d) (c2 := c2) (out := out) (wr := w2) hl hm HI.out HLT.out HV.out h1 h2 hc h3 (by omega) hil HLA.out
        have HS := (show Hid _ from STEP)
        clear STEP
        generalize l[i]?.getD 0 = a at *
        generalize m[i]?.getD 0 = b at *
        have e1 : IntKind.u32.wrap ((c : Int) + (a : Int)) = ((c + a : Nat) : Int) := by rw [IntKind.wrap_u32]; omega
        have e2 : IntKind.u32.wrap (((c + a : Nat) : Int) + (b : Int)) = (x : Int) := by rw [IntKind.wrap_u32]; omega
        obtain ⟨d, hd⟩ : ∃ d, d = x % 65536 := ⟨_, rfl⟩
        obtain ⟨q, hq⟩ : ∃ q, q = x / 65536 := ⟨_, rfl⟩
        have e3 : (x : Int) % 65536 = (d : Int) := by omega
        have e4 : (x : Int) / 65536 = (q : Int) := by omega
        have HDQ : Hid (d + 65536 * q = x ∧ d < 65536 ∧ q ≤ 1) := (by omega : d + 65536 * q = x ∧ d < 65536 ∧ q ≤ 1)
        have HXX := (show Hid _ from hxx)
        clear hxx hd hq hc1 hc2
        go_wp2_with (first | (at_builtin; refine app32 rfl _ _ rfl w.heap.size _ _ _ w _ _ hown rfl rfl (by omega) (Nat.le_refl _) hbw ?_; intro v' w2 hown' hbw'))
        obtain ⟨q1, q2, q3⟩ := HDQ.out
        have q4 := HXX.out
        have f1 : ((c : Int) + (a : Int) + (b : Int)) % 65536 = (d : Int) := by omega
        have f2 : ((c : Int) + (a : Int) + (b : Int)) / 65536 = (q : Int) := by omega
        try rw [f1] at hown'
        try rw [f2]
        have f3 : (q : Int) % 4294967296 = (q : Int) := by omega
        try rw [f3]
        refine ⟨HS.out d q v' w2 (by omega) q2 q3 hown' hbw', ?_⟩
        simp only [RowKit.intOf]
        omega
      · have k2 : ¬ (i : Int) < (m.length : Int) := by omega
        obtain ⟨x, hxx⟩ : ∃ x, x = c + l[i]?.getD 0 + m[i]?.getD 0 := ⟨_, rfl⟩
        have la := getD_lt hl i
        have lb := getD_lt hm i
        have lb0 := getD_none m i (by omega)
        have x1 : wr.cell? ⟨b1, o1 + i, none⟩ = some (.int .u32 ((l[i]?.getD 0 : Nat) : Int)) := (hbw.cell (p := ⟨b1, o1 + i, none⟩) hb1).trans (hc1 i (by omega))
        have STEP := fun (d c2 : Nat) (out : Value) (w2 : World) (h1 : d + 65536 * c2 = c + l[i]?.getD 0 + m[i]?.getD 0) (h2 : d < 65536) (h3 : c2 ≤ 1) => add_step (w := w) (d := d) (c2 := c2) (out := out) (wr := w2) hl hm HI.out HLT.out HV.out h1 h2 hc h3 (by omega) hil HLA.out
        have HS := (show Hid _ from STEP)
        clear STEP
        generalize l[i]?.getD 0 = a at *
        have e1 : IntKind.u32.wrap ((c : Int) + (a : Int)) = ((c + a : Nat) : Int) := by rw [IntKind.wrap_u32]; omega
        have e2 : ((c + a : Nat) : Int) = (x : Int) := by omega
        obtain ⟨d, hd⟩ : ∃ d, d = x % 65536 := ⟨_, rfl⟩
        obtain ⟨q, hq⟩ : ∃ q, q = x / 65536 := ⟨_, rfl⟩
        have e3 : (x : Int) % 65536 = (d : Int) := by omega
        have e4 : (x : Int) / 65536 = (q : Int) := by omega
        have HDQ : Hid (d + 65536 * q = x ∧ d < 65536 ∧ q ≤ 1) := (by omega : d + 65536 * q = x ∧ d < 65536 ∧ q ≤ 1)
        have HXX := (show Hid _ from hxx)
        clear hxx hd hq hc1 hc2
        go_wp2_with (first | (at_builtin; refine app32 rfl _ _ rfl w.heap.size _ _ _ w _ _ hown rfl rfl (by omega) (Nat.le_refl _) hbw ?_; intro v' w2 hown' hbw'))
        obtain ⟨q1, q2, q3⟩ := HDQ.out
        have q4 := HXX.out
        have f1 : ((c : Int) + (a : Int)) % 65536 = (d : Int) := by omega
        have f2 : ((c : Int) + (a : Int)) / 65536 = (q : Int) := by omega
        try rw [f1] at hown'
        try rw [f2]
        have f3 : (q : Int) % 4294967296 = (q : Int) := by omega
        try rw [f3]
        refine ⟨HS.out d q v' w2 (by omega) q2 q3 hown' hbw', ?_⟩
        simp only [RowKit.intOf]
        omega
    · have k1 : ¬ (i : Int) < (l.length : Int) := by omega
      by_cases g2 : i < m.length
      · have k2 : (i : Int) < (m.length : Int) := by omega
        obtain ⟨x, hxx⟩ : ∃ x, x = c + l[i]?.getD 0 + m[i]?.getD 0 := ⟨_, rfl⟩
        have la := getD_lt hl i
        have lb := getD_lt hm i
        have la0 := getD_none l i (by omega)
        have x2 : wr.cell? ⟨b2, o2 + i, none⟩ = some (.int .u32 ((m[i]?.getD 0 : Nat) : Int)) := (hbw.cell (p := ⟨b2, o2 + i, none⟩) hb2).trans (hc2 i (by omega))
        have STEP := fun (d c2 : Nat) (out : Value) (w2 : World) (h1 : d + 65536 * c2 = c + l[i]?.getD 0 + m[i]?.getD 0) (h2 : d < 65536) (h3 : c2 ≤ 1) => add_step (w := w) (d := d) (c2 := c2) (out := out) (wr := w2) hl hm HI.out HLT.out HV.out h1 h2 hc h3 (by omega) hil HLA.out
        have HS := (show Hid _ from STEP)
        clear STEP
        generalize m[i]?.getD 0 = b at *
        have e2 : IntKind.u32.wrap (((c : Nat) : Int) + (b : Int)) = (x : Int) := by rw [IntKind.wrap_u32]; omega
        obtain ⟨d, hd⟩ : ∃ d, d = x % 65536 := ⟨_, rfl⟩
        obtain ⟨q, hq⟩ : ∃ q, q = x / 65536 := ⟨_, rfl⟩
        have e3 : (x : Int) % 65536 = (d : Int) := by omega
        have e4 : (x : Int) / 65536 = (q : Int) := by omega
        have HDQ : Hid (d + 65536 * q = x ∧ d < 65536 ∧ q ≤ 1) := (by omega : d + 65536 * q = x ∧ d < 65536 ∧ q ≤ 1)
        have HXX := (show Hid _ from hxx)
        clear hxx hd hq hc1 hc2
        go_wp2_with (first | (at_builtin; refine app32 rfl _ _ rfl w.heap.size _ _ _ w _ _ hown rfl rfl (by omega) (Nat.le_refl _) hbw ?_; intro v' w2 hown' hbw'))
        obtain ⟨q1, q2, q3⟩ := HDQ.out
        have q4 := HXX.out
        have f1 : ((c : Int) + (b : Int)) % 65536 = (d : Int) := by omega
        have f2 : ((c : Int) + (b : Int)) / 65536 = (q : Int) := by omega
        try rw [f1] at hown'
        try rw [f2]
        have f3 : (q : Int) % 4294967296 = (q : Int) := by omega
        try rw [f3]
        refine ⟨HS.out d q v' w2 (by omega) q2 q3 hown' hbw', ?_⟩
        simp only [RowKit.intOf]
        omega
      · have k2 : ¬ (i : Int) < (m.length : Int) := by omega
        rcases Nat.eq_zero_or_pos c with g3 | g3
        · have HF : Hid (val done = val l + val m) := by
            show val done = val l + val m
            have h1 := HV.out
            rw [g3, List.drop_of_length_le (by omega), List.drop_of_length_le (by omega)] at h1
            simpa [val] using h1
          subst g3
          have ct := cut_any done u5 (by omega) HLT.out wr (row_owns hown)
          go_wp2_with (first | (go_at_call 117; refine ct.mono ?_; rintro e w1 ⟨v', rfl, hv', rfl⟩))
          go_ret
          exact ⟨v', rfl, by rw [← HF.out]; exact hv', hbw⟩
        · have k3 : (0 : Int) < (c : Int) := by omega
          obtain ⟨x, hxx⟩ : ∃ x, x = c + l[i]?.getD 0 + m[i]?.getD 0 := ⟨_, rfl⟩
          have la := getD_lt hl i
          have lb := getD_lt hm i
          have la0 := getD_none l i (by omega)
          have lb0 := getD_none m i (by omega)
          have STEP := fun (d c2 : Nat) (out : Value) (w2 : World) (h1 : d + 65536 * c2 = c + l[i]?.getD 0 + m[i]?.getD 0) (h2 : d < 65536) (h3 : c2 ≤ 1) => add_step (w := w) (d := d) (c2 := c2) (out := out) (wr := w2) hl hm HI.out HLT.out HV.out h1 h2 hc h3 (by omega) hil HLA.out
          have HS := (show Hid _ from STEP)
          clear STEP
          have e2 : (c : Int) = (x : Int) := by omega
          obtain ⟨d, hd⟩ : ∃ d, d = x % 65536 := ⟨_, rfl⟩
          obtain ⟨q, hq⟩ : ∃ q, q = x / 65536 := ⟨_, rfl⟩
          have e3 : (x : Int) % 65536 = (d : Int) := by omega
          have e4 : (x : Int) / 65536 = (q : Int) := by omega
          have HDQ : Hid (d + 65536 * q = x ∧ d < 65536 ∧ q ≤ 1) := (by omega : d + 65536 * q = x ∧ d < 65536 ∧ q ≤ 1)
          have HXX := (show Hid _ from hxx)
          clear hxx hd hq hc1 hc2
          go_wp2_with (first | (at_builtin; refine app32 rfl _ _ rfl w.heap.size _ _ _ w _ _ hown rfl rfl (by omega) (Nat.le_refl _) hbw ?_; intro v' w2 hown' hbw'))
          obtain ⟨q1, q2, q3⟩ := HDQ.out
          have q4 := HXX.out
          have f1 : ((c : Int)) % 65536 = (d : Int) := by omega
          have f2 : ((c : Int)) / 65536 = (q : Int) := by omega
          try rw [f1] at hown'
          try rw [f2]
          have f3 : (q : Int) % 4294967296 = (q : Int) := by omega
          try rw [f3]
          refine ⟨HS.out d q v' w2 (by omega) q2 q3 hown' hbw', ?_⟩
          simp only [RowKit.intOf]
          omega
set_option maxRecDepth 100000 in
set_option maxHeartbeats 4000000 in
theorem add_10 (l m : List Nat) (b1 o1 c1 b2 o2 c2 : Nat) (oa ob : Option Addr) (hl : ∀ d ∈ l, d < 65536) (hm : ∀ d ∈ m, d < 65536) (hll : l.length ≤ 1000) (hml : m.length ≤ 1000) (w : World)
    (hb1 : b1 < w.heap.size) (hc1 : ∀ j, j < l.length → w.cell? ⟨b1, o1 + j, none⟩ = some (.int .u32 ((l[j]?.getD 0 : Nat) : Int)))
    (hm0 : m.length = 0)
    : Calls Tryz.prog 69 #[.slice (some ⟨b1, o1, none⟩) l.length c1, .slice ob 0 c2] w fun e w' => ∃ v, e = .returned v ∧ NatIs w' v (val l + val m) ∧ Below w.heap.size w w' := by
  go_enter Tryz.func69, Tryz.ntmps69
  go_wp2
  go_loopw [5, 6, 7] (fun out carry vi wr => AddR w l m out carry vi wr) (fun _ carry vi _ => 2 * (l.length + m.length - (RowKit.intOf vi).toNat) + (RowKit.intOf carry).toNat)
  case atStart => exact ⟨0, 0, [], World.ownsRow_nil _ _ _ _, rfl, rfl, rfl, by omega, by omega, by simp, by simp [val], by omega, Below.refl _ _⟩
  case round =>
    obtain ⟨i, c, done, hown, rfl, rfl, hi, hc, hil, hlt, hval, hlast, hbw⟩ := hrel
    have HV : Hid (val done + 65536 ^ i * (c + val (l.drop i) + val (m.drop i)) = val l + val m) := hval
    have HLT : Hid (∀ d ∈ done, d < 65536) := hlt
    have HI : Hid (done.length = i) := hi
    have HLA : Hid (i = l.length + m.length + 1 → c = 0) := hlast
    have hdl : done.length ≤ 3000 := by omega
    clear hval hlt hi hlast
    by_cases g1 : i < l.length
    · have k1 : (i : Int) < (l.length : Int) := by omega
      by_cases g2 : i < m.length
      · omega
      · have k2 : ¬ (i : Int) < 0 := by omega
        obtain ⟨x, hxx⟩ : ∃ x, x = c + l[i]?.getD 0 + m[i]?.getD 0 := ⟨_, rfl⟩
        have la := getD_lt hl i
        have lb := getD_lt hm i
        have lb0 := getD_none m i (by omega)
        have x1 : wr.cell? ⟨b1, o1 + i, none⟩ = some (.int .u32 ((l[i]?.getD 0 : Nat) : Int)) := (hbw.cell (p := ⟨b1, o1 + i, none⟩) hb1).trans (hc1 i (by omega))
        have STEP := fun (d c2 : Nat) (out : Value) (w2 : World) (h1 : d + 65536 * c2 = c + l[i]?.getD 0 + m[i]?.getD 0) (h2 : d < 65536) (h3 : c2 ≤ 1) => add_step (w := w) (d := d) (c2 := c2) (out := out) (wr := w2) hl hm HI.out HLT.out HV.out h1 h2 hc h3 (by omega) hil HLA.out
        have HS := (show Hid _ from STEP)
        clear STEP
        generalize l[i]?.getD 0 = a at *
        have e1 : IntKind.u32.wrap ((c : Int) + (a : Int)) = ((c + a : Nat) : Int) := by rw [IntKind.wrap_u32]; omega
        have e2 : ((c + a : Nat) : Int) = (x : Int) := by omega
        obtain ⟨d, hd⟩ : ∃ d, d = x % 65536 := ⟨_, rfl⟩
        obtain ⟨q, hq⟩ : ∃ q, q = x / 65536 := ⟨_, rfl⟩
        have e3 : (x : Int) % 65536 = (d : Int) := by omega
        have e4 : (x : Int) / 65536 = (q : Int) := by omega
        have HDQ : Hid (d + 65536 * q = x ∧ d < 65536 ∧ q ≤ 1) := (by omega : d + 65536 * q = x ∧ d < 65536 ∧ q ≤ 1)
        have HXX := (show Hid _ from hxx)
        clear hxx hd hq hc1
        go_wp2_with (first | (at_builtin; refine app32 rfl _ _ rfl w.heap.size _ _ _ w _ _ hown rfl rfl (by omega) (Nat.le_refl _) hbw ?_; intro v' w2 hown' hbw'))
        obtain ⟨q1, q2, q3⟩ := HDQ.out
        have q4 := HXX.out
        have f1 : ((c : Int) + (a : Int)) % 65536 = (d : Int) := by omega
        have f2 : ((c : Int) + (a : Int)) / 65536 = (q : Int) := by omega
        try rw [f1] at hown'
        try rw [f2]
        have f3 : (q : Int) % 4294967296 = (q : Int) := by omega
        try rw [f3]
        refine ⟨HS.out d q v' w2 (by omega) q2 q3 hown' hbw', ?_⟩
        simp only [RowKit.intOf]
        omega
    · have k1 : ¬ (i : Int) < (l.length : Int) := by omega
      by_cases g2 : i < m.length
      · omega
      · have k2 : ¬ (i : Int) < 0 := by omega
        rcases Nat.eq_zero_or_pos c with g3 | g3
        · have HF : Hid (val done = val l + val m) := by
            show val done = val l + val m
            have h1 := HV.out
            rw [g3, List.drop_of_length_le (by omega), List.drop_of_length_le (by omega)] at h1
            simpa [val] using h1
          subst g3
          have ct := cut_any done u5 (by omega) HLT.out wr (row_owns hown)
          go_wp2_with (first | (go_at_call 117; refine ct.mono ?_; rintro e w1 ⟨v', rfl, hv', rfl⟩))
          go_ret
          exact ⟨v', rfl, by rw [← HF.out]; exact hv', hbw⟩
        · have k3 : (0 : Int) < (c : Int) := by omega
          obtain ⟨x, hxx⟩ : ∃ x, x = c + l[i]?.getD 0 + m[i]?.getD 0 := ⟨_, rfl⟩
          have la := getD_lt hl i
          have lb := getD_lt hm i
          have la0 := getD_none l i (by omega)
          have lb0 := getD_none m i (by omega)
          have STEP := fun (d c2 : Nat) (out : Value) (w2 : World) (h1 : d + 65536 * c2 = c + l[i]?.getD 0 + m[i]?.getD 0) (h2 : d < 65536) (h3 : c2 ≤ 1) => add_step (w := w) (d := d) (c2 := c2) (out := out) (wr := w2) hl hm HI.out HLT.out HV.out h1 h2 hc h3 (by omega) hil HLA.out
          have HS := (show Hid _ from STEP)
          clear STEP
          have e2 : (c : Int) = (x : Int) := by omega
          obtain ⟨d, hd⟩ : ∃ d, d = x % 65536 := ⟨_, rfl⟩
          obtain ⟨q, hq⟩ : ∃ q, q = x / 65536 := ⟨_, rfl⟩
          have e3 : (x : Int) % 65536 = (d : Int) := by omega
          have e4 : (x : Int) / 65536 = (q : Int) := by omega
          have HDQ : Hid (d + 65536 * q = x ∧ d < 65536 ∧ q ≤ 1) := (by omega : d + 65536 * q = x ∧ d < 65536 ∧ q ≤ 1)
          have HXX := (show Hid _ from hxx)
          clear hxx hd hq hc1
          go_wp2_with (first | (at_builtin; refine app32 rfl _ _ rfl w.heap.size _ _ _ w _ _ hown rfl rfl (by omega) (Nat.le_refl _) hbw ?_; intro v' w2 hown' hbw'))
          obtain ⟨q1, q2, q3⟩ := HDQ.out
          have q4 := HXX.out
          have f1 : ((c : Int)) % 65536 = (d : Int) := by omega
          have f2 : ((c : Int)) / 65536 = (q : Int) := by omega
          try rw [f1] at hown'
          try rw [f2]
          have f3 : (q : Int) % 4294967296 = (q : Int) := by omega
          try rw [f3]
          refine ⟨HS.out d q v' w2 (by omega) q2 q3 hown' hbw', ?_⟩
          simp only [RowKit.intOf]
          omega
set_option maxRecDepth 100000 in
set_option maxHeartbeats 4000000 in
theorem add_01 (l m : List Nat) (b1 o1 c1 b2 o2 c2 : Nat) (oa ob : Option Addr) (hl : ∀ d ∈ l, d < 65536) (hm : ∀ d ∈ m, d < 65536) (hll : l.length ≤ 1000) (hml : m.length ≤ 1000) (w : World)
    (hl0 : l.length = 0)
    (hb2 : b2 < w.heap.size) (hc2 : ∀ j, j < m.length → w.cell? ⟨b2, o2 + j, none⟩ = some (.int .u32 ((m[j]?.getD 0 : Nat) : Int)))
    : Calls Tryz.prog 69 #[.slice oa 0 c1, .slice (some ⟨b2, o2, none⟩) m.length c2] w fun e w' => ∃ v, e = .returned v ∧ NatIs w' v (val l + val m) ∧ Below w.heap.size w w' := by
  go_enter Tryz.func69, Tryz.ntmps69
  go_wp2
  go_loopw [5, 6, 7] (fun out carry vi wr => AddR w l m out carry vi wr) (fun _ carry vi _ => 2 * (l.length + m.length - (RowKit.intOf vi).toNat) + (RowKit.intOf carry).toNat)
  case atStart => exact ⟨0, 0, [], World.ownsRow_nil _ _ _ _, rfl, rfl, rfl, by omega, by omega, by simp, by simp [val], by omega, Below.refl _ _⟩
  case round =>
    obtain ⟨i, c, done, hown, rfl, rfl, hi, hc, hil, hlt, hval, hlast, hbw⟩ := hrel
    have HV : Hid (val done + 65536 ^ i * (c + val (l.drop i) + val (m.drop i)) = val l + val m) := hval
    have HLT : Hid (∀ d ∈ done, d < 65536) := hlt
    have HI : Hid (done.length = i) := hi
    have HLA : Hid (i = l.length + m.length + 1 → c = 0) := hlast
    have hdl : done.length ≤ 3000 := by omega
    clear hval hlt hi hlast
    by_cases g1 : i < l.length
    · omega
    · have k1 : ¬ (i : Int) < 0 := by omega
      by_cases g2 : i < m.length
      · have k2 : (i : Int) < (m.length : Int) := by omega
        obtain ⟨x, hxx⟩ : ∃ x, x = c + l[i]?.getD 0 + m[i]?.getD 0 := ⟨_, rfl⟩
        have la := getD_lt hl i
        have lb := getD_lt hm i
        have la0 := getD_none l i (by omega)
        have x2 : wr.cell? ⟨b2, o2 + i, none⟩ = some (.int .u32 ((m[i]?.getD 0 : Nat) : Int)) := (hbw.cell (p := ⟨b2, o2 + i, none⟩) hb2).trans (hc2 i (by omega))
        have STEP := fun (d c2 : Nat) (out : Value) (w2 : World) (h1 : d + 65536 * c2 = c + l[i]?.getD 0 + m[i]?.getD 0) (h2 : d < 65536) (h3 : c2 ≤ 1) => add_step (w := w) (d := d) (c2 := c2) (out := out) (wr := w2) hl hm HI.out HLT.out HV.out h1 h2 hc h3 (by omega) hil HLA.out
        have HS := (show Hid _ from STEP)
        clear STEP
        generalize m[i]?.getD 0 = b at *
        have e2 : IntKind.u32.wrap (((c : Nat) : Int) + (b : Int)) = (x : Int) := by rw [IntKind.wrap_u32]; omega
        obtain ⟨d, hd⟩ : ∃ d, d = x % 65536 := ⟨_, rfl⟩
        obtain ⟨q, hq⟩ : ∃ q, q = x / 65536 := ⟨_, rfl⟩
        have e3 : (x : Int) % 65536 = (d : Int) := by omega
        have e4 : (x : Int) / 65536 = (q : Int) := by omega
        have HDQ : Hid (d + 65536 * q = x ∧ d < 65536 ∧ q ≤ 1) := (by omega : d + 65536 * q = x ∧ d < 65536 ∧ q ≤ 1)
        have HXX := (show Hid _ from hxx)
        clear hxx hd hq hc2
        go_wp2_with (first | (at_builtin; refine app32 rfl _ _ rfl w.heap.size _ _ _ w _ _ hown rfl rfl (by omega) (Nat.le_refl _) hbw ?_; intro v' w2 hown' hbw'))
        obtain ⟨q1, q2, q3⟩ := HDQ.out
        have q4 := HXX.out
        have f1 : ((c : Int) + (b : Int)) % 65536 = (d : Int) := by omega
        have f2 : ((c : Int) + (b : Int)) / 65536 = (q : Int) := by omega
        try rw [f1] at hown'
        try rw [f2]
        have f3 : (q : Int) % 4294967296 = (q : Int) := by omega
        try rw [f3]
        refine ⟨HS.out d q v' w2 (by omega) q2 q3 hown' hbw', ?_⟩
        simp only [RowKit.intOf]
        omega
      · have k2 : ¬ (i : Int) < (m.length : Int) := by omega
        rcases Nat.eq_zero_or_pos c with g3 | g3
        · have HF : Hid (val done = val l + val m) := by
            show val done = val l + val m
            have h1 := HV.out
            rw [g3, List.drop_of_length_le (by omega), List.drop_of_length_le (by omega)] at h1
            simpa [val] using h1
          subst g3
          have ct := cut_any done u5 (by omega) HLT.out wr (row_owns hown)
          go_wp2_with (first | (go_at_call 117; refine ct.mono ?_; rintro e w1 ⟨v', rfl, hv', rfl⟩))
          go_ret
          exact ⟨v', rfl, by rw [← HF.out]; exact hv', hbw⟩
        · have k3 : (0 : Int) < (c : Int) := by omega
          obtain ⟨x, hxx⟩ : ∃ x, x = c + l[i]?.getD 0 + m[i]?.getD 0 := ⟨_, rfl⟩
          have la := getD_lt hl i
          have lb := getD_lt hm i
          have la0 := getD_none l i (by omega)
          have lb0 := getD_none m i (by omega)
          have STEP := fun (d c2 : Nat) (out : Value) (w2 : World) (h1 : d + 65536 * c2 = c + l[i]?.getD 0 + m[i]?.getD 0) (h2 : d < 65536) (h3 : c2 ≤ 1) => add_step (w := w) (d := d) (c2 := c2) (out := out) (wr := w2) hl hm HI.out HLT.out HV.out h1 h2 hc h3 (by omega) hil HLA.out
          have HS := (show Hid _ from STEP)
          clear STEP
          have e2 : (c : Int) = (x : Int) := by omega
          obtain ⟨d, hd⟩ : ∃ d, d = x % 65536 := ⟨_, rfl⟩
          obtain ⟨q, hq⟩ : ∃ q, q = x / 65536 := ⟨_, rfl⟩
          have e3 : (x : Int) % 65536 = (d : Int) := by omega
          have e4 : (x : Int) / 65536 = (q : Int) := by omega
          have HDQ : Hid (d + 65536 * q = x ∧ d < 65536 ∧ q ≤ 1) := (by omega : d + 65536 * q = x ∧ d < 65536 ∧ q ≤ 1)
          have HXX := (show Hid _ from hxx)
          clear hxx hd hq hc2
          go_wp2_with (first | (at_builtin; refine app32 rfl _ _ rfl w.heap.size _ _ _ w _ _ hown rfl rfl (by omega) (Nat.le_refl _) hbw ?_; intro v' w2 hown' hbw'))
          obtain ⟨q1, q2, q3⟩ := HDQ.out
          have q4 := HXX.out
          have f1 : ((c : Int)) % 65536 = (d : Int) := by omega
          have f2 : ((c : Int)) / 65536 = (q : Int) := by omega
          try rw [f1] at hown'
          try rw [f2]
          have f3 : (q : Int) % 4294967296 = (q : Int) := by omega
          try rw [f3]
          refine ⟨HS.out d q v' w2 (by omega) q2 q3 hown' hbw', ?_⟩
          simp only [RowKit.intOf]
          omega
set_option maxRecDepth 100000 in
set_option maxHeartbeats 4000000 in
theorem add_00 (l m : List Nat) (b1 o1 c1 b2 o2 c2 : Nat) (oa ob : Option Addr) (hl : ∀ d ∈ l, d < 65536) (hm : ∀ d ∈ m, d < 65536) (hll : l.length ≤ 1000) (hml : m.length ≤ 1000) (w : World)
    (hl0 : l.length = 0)
    (hm0 : m.length = 0)
    : Calls Tryz.prog 69 #[.slice oa 0 c1, .slice ob 0 c2] w fun e w' => ∃ v, e = .returned v ∧ NatIs w' v (val l + val m) ∧ Below w.heap.size w w' := by
  go_enter Tryz.func69, Tryz.ntmps69
  go_wp2
  go_loopw [5, 6, 7] (fun out carry vi wr => AddR w l m out carry vi wr) (fun _ carry vi _ => 2 * (l.length + m.length - (RowKit.intOf vi).toNat) + (RowKit.intOf carry).toNat)
  case atStart => exact ⟨0, 0, [], World.ownsRow_nil _ _ _ _, rfl, rfl, rfl, by omega, by omega, by simp, by simp [val], by omega, Below.refl _ _⟩
  case round =>
    obtain ⟨i, c, done, hown, rfl, rfl, hi, hc, hil, hlt, hval, hlast, hbw⟩ := hrel
    have HV : Hid (val done + 65536 ^ i * (c + val (l.drop i) + val (m.drop i)) = val l + val m) := hval
    have HLT : Hid (∀ d ∈ done, d < 65536) := hlt
    have HI : Hid (done.length = i) := hi
    have HLA : Hid (i = l.length + m.length + 1 → c = 0) := hlast
    have hdl : done.length ≤ 3000 := by omega
    clear hval hlt hi hlast
    by_cases g1 : i < l.length
    · omega
    · have k1 : ¬ (i : Int) < 0 := by omega
      by_cases g2 : i < m.length
      · omega
      · have k2 : ¬ (i : Int) < 0 := by omega
        rcases Nat.eq_zero_or_pos c with g3 | g3
        · have HF : Hid (val done = val l + val m) := by
            show val done = val l + val m
            have h1 := HV.out
            rw [g3, List.drop_of_length_le (by omega), List.drop_of_length_le (by omega)] at h1
            simpa [val] using h1
          subst g3
          have ct := cut_any done u5 (by omega) HLT.out wr (row_owns hown)
          go_wp2_with (first | (go_at_call 117; refine ct.mono ?_; rintro e w1 ⟨v', rfl, hv', rfl⟩))
          go_ret
          exact ⟨v', rfl, by rw [← HF.out]; exact hv', hbw⟩
        · have k3 : (0 : Int) < (c : Int) := by omega
          obtain ⟨x, hxx⟩ : ∃ x, x = c + l[i]?.getD 0 + m[i]?.getD 0 := ⟨_, rfl⟩
          have la := getD_lt hl i
          have lb := getD_lt hm i
          have la0 := getD_none l i (by omega)
          have lb0 := getD_none m i (by omega)
          have STEP := fun (d c2 : Nat) (out : Value) (w2 : World) (h1 : d + 65536 * c2 = c + l[i]?.getD 0 + m[i]?.getD 0) (h2 : d < 65536) (h3 : c2 ≤ 1) => add_step (w := w) (d := d) (c2 := c2) (out := out) (wr := w2) hl hm HI.out HLT.out HV.out h1 h2 hc h3 (by omega) hil HLA.out
          have HS := (show Hid _ from STEP)
          clear STEP
          have e2 : (c : Int) = (x : Int) := by omega
          obtain ⟨d, hd⟩ : ∃ d, d = x % 65536 := ⟨_, rfl⟩
          obtain ⟨q, hq⟩ : ∃ q, q = x / 65536 := ⟨_, rfl⟩
          have e3 : (x : Int) % 65536 = (d : Int) := by omega
          have e4 : (x : Int) / 65536 = (q : Int) := by omega
          have HDQ : Hid (d + 65536 * q = x ∧ d < 65536 ∧ q ≤ 1) := (by omega : d + 65536 * q = x ∧ d < 65536 ∧ q ≤ 1)
          have HXX := (show Hid _ from hxx)
          clear hxx hd hq
          go_wp2_with (first | (at_builtin; refine app32 rfl _ _ rfl w.heap.size _ _ _ w _ _ hown rfl rfl (by omega) (Nat.le_refl _) hbw ?_; intro v' w2 hown' hbw'))
          obtain ⟨q1, q2, q3⟩ := HDQ.out
          have q4 := HXX.out
          have f1 : ((c : Int)) % 65536 = (d : Int) := by omega
          have f2 : ((c : Int)) / 65536 = (q : Int) := by omega
          try rw [f1] at hown'
          try rw [f2]
          have f3 : (q : Int) % 4294967296 = (q : Int) := by omega
          try rw [f3]
          refine ⟨HS.out d q v' w2 (by omega) q2 q3 hown' hbw', ?_⟩
          simp only [RowKit.intOf]
          omega
/-- **Add.** -/
theorem add_any (u v : Value) (x y : Nat) (w : World) (hx : NatIs w u x) (hy : NatIs w v y) (bx : x < pw 1000) (by' : y < pw 1000) :
    Calls Tryz.prog 69 #[u, v] w fun e w' => ∃ r, e = .returned r ∧ NatIs w' r (x + y) ∧ Below w.heap.size w w' := by
  obtain ⟨l, hl1, hl2, rfl⟩ := hx
  obtain ⟨m, hm1, hm2, rfl⟩ := hy
  have l1 := len_le hl2 bx
  have l2 := len_le hm2 by'
  rcases hl1 with ⟨⟨oa, c1, rfl, _⟩, hle⟩ | ⟨b1, o1, c1, rfl, _, hb1, hc1⟩
  · rcases hm1 with ⟨⟨ob, c2, rfl, _⟩, hme⟩ | ⟨b2, o2, c2, rfl, _, hb2, hc2⟩
    · exact add_00 l m 0 0 c1 0 0 c2 oa ob hl2.1 hm2.1 l1 l2 w (by rw [hle]; rfl) (by rw [hme]; rfl)
    · exact add_01 l m 0 0 c1 b2 o2 c2 oa none hl2.1 hm2.1 l1 l2 w (by rw [hle]; rfl) hb2 hc2
  · rcases hm1 with ⟨⟨ob, c2, rfl, _⟩, hme⟩ | ⟨b2, o2, c2, rfl, _, hb2, hc2⟩
    · exact add_10 l m b1 o1 c1 0 0 c2 none ob hl2.1 hm2.1 l1 l2 w hb1 hc1 (by rw [hme]; rfl)
    · exact add_11 l m b1 o1 c1 b2 o2 c2 none none hl2.1 hm2.1 l1 l2 w hb1 hc1 hb2 hc2
end Go.Proofs.YtellndmbllmjgaaGreatDoor
