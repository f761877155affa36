/- Pack at any slice, Unpack of what is packed. -/
import Derived.Test.YtmicdbplkfdfnaaGreatDoorCHu9x
set_option linter.unusedVariables false
namespace Go.Proofs.YtmicdbplkfdfnaaGreatDoor
open Go.RowKit Go.Shelf

theorem pack_nil (a : Option Addr) (c : Nat) (w : World) :
    Calls Tryz.prog 32 #[.slice a 0 c] w fun e w' => e = .returned (.string (pk [])) ∧ Below w.heap.size w w' := by
  have hcv : ∀ w, (convert 133 9 (.slice none 0 0)).run Tryz.prog w = .ok (.string ⟨#[]⟩) w := fun w => by kernel_rfl
  go_enter Tryz.func32, Tryz.ntmps32
  go_wp2
  refine wp_loop_rounds 1 ?_
  rw [rounds_succ]
  go_wp2
  go_ret
  exact ⟨rfl, Below.refl _ _⟩
theorem pack16 (sv : Value) (us : List Nat) (hu : ∀ u ∈ us, u < 65536) (hlen : us.length ≤ 4000000) (w : World) (hL : Row16 w.heap.size w sv us) :
    Calls Tryz.prog 32 #[sv] w fun e w' => e = .returned (.string (pk us)) ∧ Below w.heap.size w w' := by
  rcases hL with ⟨⟨a, c, rfl⟩, rfl⟩ | ⟨b, off, cap, rfl, hb, hc⟩
  · exact pack_nil a c w
  · exact pack_any us hu hlen w b off cap hb (fun j hj => by rw [hc j hj, List.getElem?_eq_getElem hj]; rfl)
theorem pk_size (us : List Nat) : (pk us).size = 2 * us.length := by
  have : (pk us).size = (pkB us).length := by simp [pk, ByteArray.size]
  rw [this, pkB_len]
theorem pkB_get : ∀ (us : List Nat) (k u : Nat), us[k]? = some u → (pkB us)[2 * k]? = some (u / 256) ∧ (pkB us)[2 * k + 1]? = some (u % 256)
  | [], k, u, h => by simp at h
  | a :: us, 0, u, h => by
    simp at h
    subst h
    simp [pkB]
  | a :: us, k + 1, u, h => by
    simp only [List.getElem?_cons_succ] at h
    have := pkB_get us k u h
    have e : pkB (a :: us) = [a / 256, a % 256] ++ pkB us := rfl
    rw [e, show 2 * (k + 1) = 2 * k + 2 by omega]
    simpa using this
theorem pk_get (us : List Nat) (hu : ∀ u ∈ us, u < 65536) (k u : Nat) (h : us[k]? = some u) : ∀ j, (j = 2 * k → ∀ hj : j < (pk us).size, ((pk us)[j]'hj).toNat = u / 256) ∧ (j = 2 * k + 1 → ∀ hj : j < (pk us).size, ((pk us)[j]'hj).toNat = u % 256) := by
  intro j
  obtain ⟨h1, h2⟩ := pkB_get us k u h
  have hul := hu u (List.mem_of_getElem? h)
  have key : ∀ (i c : Nat), (pkB us)[i]? = some c → c < 256 → ∀ hj : i < (pk us).size, ((pk us)[i]'hj).toNat = c := by
    intro i c hi hc hj
    have h3 : i < (pkB us).length := (List.getElem?_eq_some_iff.1 hi).1
    have e1 : (pk us)[i]'hj = UInt8.ofNat ((pkB us)[i]) := by
      show (pk us).data[i] = _
      simp [pk]
    rw [List.getElem?_eq_getElem h3] at hi
    rw [e1, Option.some.inj hi, UInt8.toNat_ofNat', Nat.mod_eq_of_lt hc]
  constructor
  · rintro rfl hj
    exact key _ _ h1 (by omega) hj
  · rintro rfl hj
    exact key _ _ h2 (by omega) hj
set_option maxRecDepth 100000 in
set_option maxHeartbeats 2000000 in
theorem unpack_any (us : List Nat) (hu : ∀ u ∈ us, u < 65536) (hlen : us.length ≤ 4000000) (w : World) :
    Calls Tryz.prog 33 #[.string (pk us)] w fun e w' => ∃ v, e = .returned v ∧ w'.ownsRow w.heap.size 86 1 v us.length (us.map uv) ∧ Below w.heap.size w w' := by
  obtain ⟨i0, hi, hz0, hz1, hz2⟩ := info_parts info24
  have hsz := pk_size us
  have HG := (show Hid _ from pk_get us hu)
  generalize pk us = s at *
  have HSZ : Hid (s.size = 2 * us.length) := hsz
  obtain ⟨N, hN⟩ : ∃ N, s.size = N := ⟨_, rfl⟩
  have hN2 : N = 2 * us.length := by omega
  clear hsz
  go_enter Tryz.func33, Tryz.ntmps33
  go_wp2
  go_loopw [3, 4] (fun l i wr => ∃ (k : Nat) (done : List Nat), k ≤ us.length ∧ done = us.take k ∧ done.length = k ∧ i = .int .i64 ((2 * k : Nat) : Int) ∧ wr.ownsRow w.heap.size 86 1 l done.length (done.map uv) ∧ Below w.heap.size w wr)
    (fun _ i _ => N - (intOf i).toNat)
  case atStart => exact ⟨0, [], Nat.zero_le _, rfl, rfl, rfl, World.ownsRow_nil _ _ _ _, Below.refl _ _⟩
  case round =>
    obtain ⟨k, done, hk, hd, hdl, rfl, hrow, hbw⟩ := hrel
    by_cases hlt : k < us.length
    · obtain ⟨u, hu1⟩ : ∃ u, us[k]? = some u := ⟨_, List.getElem?_eq_getElem hlt⟩
      have hul := hu u (List.mem_of_getElem? hu1)
      have hsn : us.take (k + 1) = us.take k ++ [u] := by rw [List.take_add_one, hu1]; rfl
      have HD : Hid (done = us.take k) := hd
      have HSN : Hid (us.take (k + 1) = us.take k ++ [u]) := hsn
      have q3 : done.length + 1 ≤ maxLen := by unfold maxLen; omega
      have g0 := (HG.out k u hu1 (2 * k)).1 rfl (by omega)
      have g1 := (HG.out k u hu1 (2 * k + 1)).2 rfl (by omega)
      have k4 : (0 : Int) ≤ ((2 * k : Nat) : Int) + 1 := by omega
      have k2 : ((2 * k : Nat) : Int) + 1 < (s.size : Int) := by omega
      have k5 : (0 : Int) ≤ ((2 * k : Nat) : Int) := by omega
      have k3 : ((2 * k : Nat) : Int) < (s.size : Int) := by omega
      have j1 : ∀ w, (Instr.index 9 (.string s) (.int .i64 ((2 * k : Nat) : Int))).run Tryz.prog w = .ok (.int .u8 ((u / 256 : Nat) : Int)) w := fun w => by
        rw [run_index_string w 9 s .i64 _ Tryz.underlying9, dif_pos ⟨k5, k3⟩, ← g0]
        rfl
      have j2 : ∀ w, (Instr.index 9 (.string s) (.int .i64 (((2 * k : Nat) : Int) + 1))).run Tryz.prog w = .ok (.int .u8 ((u % 256 : Nat) : Int)) w := fun w => by
        rw [run_index_string w 9 s .i64 _ Tryz.underlying9, dif_pos ⟨k4, k2⟩, ← g1]
        rfl
      obtain ⟨m, hm⟩ : ∃ m : Int, m = ((2 * k : Nat) : Int) := ⟨_, rfl⟩
      rw [← hm] at j1 j2 k2 k3 k4 k5 ⊢
      obtain ⟨hx, hhx⟩ : ∃ hx, hx = u / 256 := ⟨_, rfl⟩
      obtain ⟨lx, hlx⟩ : ∃ lx, lx = u % 256 := ⟨_, rfl⟩
      rw [← hhx] at j1
      rw [← hlx] at j2
      have hsum : (hx : Int) * 256 + (lx : Int) = (u : Int) := by omega
      have hm1 : m + 1 ≤ 9000000 := by omega
      have v0 : IntKind.i64.wrap (m + 1) = m + 1 := by rw [IntKind.wrap_i64]; omega
      have v1 : IntKind.u16.wrap (hx : Int) = (hx : Int) := by rw [IntKind.wrap_u16]; omega
      have v2 : IntKind.u16.wrap ((hx : Int) * 256) = (hx : Int) * 256 := by rw [IntKind.wrap_u16]; omega
      have v3 : IntKind.u16.wrap (lx : Int) = (lx : Int) := by rw [IntKind.wrap_u16]; omega
      have v4 : IntKind.u16.wrap ((hx : Int) * 256 + (lx : Int)) = (hx : Int) * 256 + (lx : Int) := by rw [IntKind.wrap_u16]; omega
      have HM : Hid (m = ((2 * k : Nat) : Int)) := hm
      have HSU : Hid ((hx : Int) * 256 + (lx : Int) = (u : Int)) := hsum
      clear g0 g1 hu1 hd hsn hu hhx hlx hsum hm
      go_wp2
      go_region_held3 (fun _ => True) (trivial) ((refine step_append_lies _ (by rfl) _ _ _ (by rfl) w.heap.size 86 i0 _ 1 2 Tryz.underlying83 hi hz0 hz1 hz2 rfl (by omega) _ done.length (done.map uv) (by rfl) ((hrow.alloc _).drew) ⟨wr.heap.size, 0, none⟩ 1 1 [.int .u16 ((hx : Int) * 256 + (lx : Int))] (by rfl) (by rfl) (cells_new wr [.int .u16 ((hx : Int) * 256 + (lx : Int))] 86) (one_ints .u16 [(hx : Int) * 256 + (lx : Int)]) (by omega) q3 (by omega) (by have := hbw.size; simp; omega) (wr.heap.size + 1) (by simp) ?_; intro gg cap w1 hown1 hgrow hat hlt1))
      all_goals
        have hb3 : Below w.heap.size w w1 := ((hbw.alloc hbw.size _).drew).grown hgrow (by have := hbw.size; simp; omega) (fun j e => (hrow.lt j e).1)
        have hown2 : w1.ownsRow w.heap.size 86 1 (.slice (some ⟨gg, 0, none⟩) (done.length + 1) cap) (done ++ [u]).length ((done ++ [u]).map uv) := by
          have e1 : (done ++ [u]).length = done.length + 1 := by simp
          have e2 : (done ++ [u]).map uv = done.map uv ++ [.int .u16 ((hx : Int) * 256 + (lx : Int))] := by rw [HSU.out]; simp [uv]
          rw [e1, e2]
          exact hown1
        have HO : Hid (w1.ownsRow w.heap.size 86 1 (.slice (some ⟨gg, 0, none⟩) (done.length + 1) cap) (done ++ [u]).length ((done ++ [u]).map uv)) := hown2
        have HB := (show Hid _ from hb3)
        clear hown1 hgrow hat hrow hown2 hb3 j1 j2 v1 v2 v3 v4
        go_wp2
        go_roundw
        case rel => exact ⟨k + 1, done ++ [u], by omega, by rw [HSN.out, ← HD.out], by simp; omega, by have := HM.out; go_num, by have h := HO.out; rw [hdl] at h; exact h, HB.out⟩
        case measure => have := HM.out; simp [intOf]; omega
    · have hke : k = us.length := by omega
      subst hke
      rw [List.take_length] at hd
      have HR := (show Hid (wr.ownsRow w.heap.size 86 1 _ done.length (done.map uv)) from hrow)
      have HDD : Hid (done = us) := hd
      clear hrow hu hd
      go_wp2
      go_ret
      refine ⟨_, rfl, ?_, hbw⟩
      have h := HR.out
      rw [HDD.out] at h
      exact h
end Go.Proofs.YtmicdbplkfdfnaaGreatDoor
set_option linter.unusedVariables false
namespace Go.Proofs.YtmicdbplkfdfnaaGreatDoor
open Go.RowKit Go.Shelf

theorem p_any (s : ByteArray) (hs : s.size ≤ 2000000) (w : World) (hT : Lib.Utf8Tabs 2 3 w) :
    Calls Tryz.prog 15 #[.string s] w fun e w' => e = .returned (.string (pk (unitsS s))) ∧ Below w.heap.size w w' := by
  have c1 := refUnits_any s hs w hT
  have hl := unitsS_len s
  have CT := (show Hid _ from fun sv W (h : Row16 W.heap.size W sv (unitsS s)) => pack16 sv (unitsS s) (unitsS_lt s) (by omega) W h)
  generalize unitsS s = us at *
  clear hl hT
  go_enter Tryz.func15, Tryz.ntmps15
  go_wp2_with (first | (go_at_call 31; fail))
  refine c1.mono ?_
  rintro e w1 ⟨v, rfl, hown, _, hb⟩
  have c2 := CT.out v w1 (row16_of_owns hown)
  clear c1 CT hown
  go_wp2_with (first | (go_at_call 32; refine c2.mono ?_; rintro e w2 ⟨rfl, hb2⟩))
  go_ret
  exact ⟨rfl, hb.trans (hb2.mono hb.size)⟩
def allD (us : List Nat) : Bool := us.all fun u => decide (48 ≤ u ∧ u ≤ 57)
def valD (us : List Nat) : Nat := us.foldl (fun n u => n * 10 + (u - 48)) 0
/-- The place that a list of units is, or -1. -/
def ixOf (us : List Nat) : Int :=
  if us.length = 0 ∨ 10 < us.length ∨ (us.headD 0 = 48 ∧ 1 < us.length) then -1
  else if allD us then (if 4294967295 ≤ valD us then -1 else (valD us : Int)) else -1
theorem valD_snoc (l : List Nat) (u : Nat) : valD (l ++ [u]) = valD l * 10 + (u - 48) := by simp [valD]
theorem allD_snoc (l : List Nat) (u : Nat) : allD (l ++ [u]) = (allD l && decide (48 ≤ u ∧ u ≤ 57)) := by simp [allD]
theorem valD_lt : ∀ (n : Nat) (l : List Nat), l.length = n → allD l = true → valD l < 10 ^ n
  | 0, l, h, _ => by rw [List.eq_nil_of_length_eq_zero h]; simp [valD]
  | n + 1, l, h, ha => by
    rcases List.eq_nil_or_concat l with h1 | ⟨m, y, h1⟩
    · rw [h1] at h; simp at h
    · rw [List.concat_eq_append] at h1
      subst h1
      rw [allD_snoc, Bool.and_eq_true] at ha
      have h2 := valD_lt n m (by simpa using h) ha.1
      have h3 := of_decide_eq_true ha.2
      rw [valD_snoc, Nat.pow_succ]
      omega
theorem allD_take {l : List Nat} {k : Nat} (h : allD l = true) : allD (l.take k) = true := by
  rw [allD, List.all_eq_true] at h ⊢
  exact fun x hx => h x (List.mem_of_mem_take hx)
set_option maxRecDepth 100000 in
set_option maxHeartbeats 2000000 in
theorem index_any (us : List Nat) (hu : ∀ u ∈ us, u < 65536) (hlen : us.length ≤ 4000000) (w : World) :
    Calls Tryz.prog 16 #[.string (pk us)] w fun e w' => e = .returned (.int .i64 (ixOf us)) ∧ Below w.heap.size w w' := by
  have c1 := unpack_any us hu hlen w
  generalize pk us = s at *
  go_enter Tryz.func16, Tryz.ntmps16
  go_wp2_with (first | (go_at_call 33; fail))
  refine c1.mono ?_
  rintro e w1 ⟨v, rfl, hown, hb⟩
  clear c1
  by_cases h0 : us.length = 0
  · have e : ixOf us = -1 := by unfold ixOf; rw [if_pos (Or.inl h0)]
    have HE := (show Hid _ from e)
    have hnil := List.eq_nil_of_length_eq_zero h0
    obtain ⟨a, c, rfl⟩ := (row16_of_owns hown).slice
    rw [h0]
    clear hown e
    go_wp2
    go_ret
    exact ⟨by rw [HE.out]; rfl, hb⟩
  · obtain ⟨g, cap, rfl⟩ := ownsRow_pos (by omega) hown
    by_cases h10 : 10 < us.length
    · have e : ixOf us = -1 := by unfold ixOf; rw [if_pos (Or.inr (Or.inl h10))]
      have HE := (show Hid _ from e)
      have k0 : ((us.length : Int) == 0) = false := by rw [beq_eq_false_iff_ne]; omega
      have k1 : (10 : Int) < (us.length : Int) := by omega
      clear hown e
      go_wp2
      go_ret
      exact ⟨by rw [HE.out]; rfl, hb⟩
    · obtain ⟨u0, hu0⟩ : ∃ u0, us[0]? = some u0 := ⟨_, List.getElem?_eq_getElem (by omega)⟩
      have hul0 := hu u0 (List.mem_of_getElem? hu0)
      have hc0 : w1.cell? ⟨g, 0, none⟩ = some (.int .u16 (u0 : Int)) := by
        have := hown.cells (g := g) rfl 0 (uv u0) (by rw [List.getElem?_map, hu0]; rfl)
        have e : ((⟨g, 0, none⟩ : Addr).add 0) = ⟨g, 0, none⟩ := by simp [Addr.add]
        rw [e] at this
        exact this
      have hcs : ∀ (k u : Nat), us[k]? = some u → w1.cell? ⟨g, k, none⟩ = some (.int .u16 (u : Int)) := by
        intro k u h
        have := hown.cells (g := g) rfl k (uv u) (by rw [List.getElem?_map, h]; rfl)
        rw [Addr.add_lit, Nat.zero_add] at this
        exact this
      have k0 : ((us.length : Int) == 0) = false := by rw [beq_eq_false_iff_ne]; omega
      have k1 : ¬ (10 : Int) < (us.length : Int) := by omega
      have HU := (show Hid _ from hu)
      have hh : us.headD 0 = u0 := by cases us with | nil => simp at hu0 | cons a l => simpa using hu0
      have HH : Hid (us.headD 0 = u0) := hh
      clear hown hu hu0 hh
      by_cases hz : u0 = 48 ∧ 1 < us.length
      · have e : ixOf us = -1 := by unfold ixOf; rw [if_pos (Or.inr (Or.inr ⟨HH.out.trans hz.1, hz.2⟩))]
        have HE := (show Hid _ from e)
        obtain ⟨hz1, hz2⟩ := hz
        have kz : ((u0 : Int) == 48) = true := by simp [hz1]
        have k2 : (1 : Int) < (us.length : Int) := by omega
        clear e hcs hz1
        go_wp2
        go_ret
        exact ⟨by rw [HE.out]; rfl, hb⟩
      · have e : ixOf us = if allD us then (if 4294967295 ≤ valD us then -1 else (valD us : Int)) else -1 := by
          unfold ixOf
          rw [if_neg]
          rintro (h | h | h)
          · exact h0 h
          · exact h10 h
          · exact hz ⟨HH.out.symm.trans h.1, h.2⟩
        have HE := (show Hid _ from e)
        have HCS := (show Hid _ from hcs)
        clear e hcs
        have hzz : ((u0 : Int) == 48) = false ∨ (((u0 : Int) == 48) = true ∧ ¬ (1 : Int) < (us.length : Int)) := by
          by_cases h48 : u0 = 48
          · right
            refine ⟨by simp [h48], fun h => hz ⟨h48, by omega⟩⟩
          · left
            simp; omega
        clear hz
        rcases hzz with kz | ⟨kz, kz2⟩
        all_goals
          go_wp2
          go_loopw [4, 5] (fun n i wr => ∃ k : Nat, k ≤ us.length ∧ i = .int .i64 k ∧ n = .int .i64 ((valD (us.take k) : Nat) : Int) ∧ Hid (allD (us.take k) = true) ∧ wr = w1)
            (fun _ i _ => us.length - (intOf i).toNat)
          case atStart => exact ⟨0, Nat.zero_le _, rfl, rfl, (show allD _ = true from rfl), rfl⟩
          case round =>
            obtain ⟨k, hk, rfl, rfl, hal, rfl⟩ := hrel
            have hvl := valD_lt (us.take k).length (us.take k) rfl hal.out
            have hkl : (us.take k).length = k := by rw [List.length_take]; omega
            rw [hkl] at hvl
            have h9 : 10 ^ k ≤ 10 ^ 10 := Nat.pow_le_pow_right (by omega) (by omega)
            have hvb : valD (us.take k) ≤ 10000000000 := by omega
            clear hvl h9 hkl
            by_cases hlt : k < us.length
            · obtain ⟨u, hu1⟩ : ∃ u, us[k]? = some u := ⟨_, List.getElem?_eq_getElem hlt⟩
              have hul := HU.out u (List.mem_of_getElem? hu1)
              have hcell := HCS.out k u hu1
              have hsn : us.take (k + 1) = us.take k ++ [u] := by rw [List.take_add_one, hu1]; rfl
              have HSN : Hid (us.take (k + 1) = us.take k ++ [u]) := hsn
              have HM : Hid (us[k]? = some u) := hu1
              clear hsn hu1
              obtain ⟨N, hN⟩ : ∃ N, N = valD (us.take k) := ⟨_, rfl⟩
              rw [← hN] at hvb ⊢
              have HN : Hid (N = valD (us.take k)) := hN
              clear hN
              by_cases hd : 48 ≤ u ∧ u ≤ 57
              · obtain ⟨hd1, hd2⟩ := hd
                have v1 : IntKind.i64.wrap ((N : Int) * 10) = (N : Int) * 10 := by rw [IntKind.wrap_i64]; omega
                have v2 : IntKind.i64.wrap ((N : Int) * 10 + (u : Int)) = (N : Int) * 10 + (u : Int) := by rw [IntKind.wrap_i64]; omega
                have v3 : IntKind.i64.wrap ((N : Int) * 10 + (u : Int) - 48) = (N : Int) * 10 + (u : Int) - 48 := by rw [IntKind.wrap_i64]; omega
                have v4 : IntKind.i64.wrap (u : Int) = (u : Int) := by rw [IntKind.wrap_i64]; omega
                go_wp2
                go_roundw
                case rel => exact ⟨k + 1, by omega, by go_num, by rw [HSN.out, valD_snoc, ← HN.out]; congr 1; omega, (show allD _ = true by rw [HSN.out, allD_snoc, hal.out]; simp; omega), trivial⟩
                case measure => simp [intOf]; omega
              · have hbad : allD us = false := by
                  rw [Bool.eq_false_iff]
                  intro h
                  rw [allD, List.all_eq_true] at h
                  exact hd (of_decide_eq_true (h u (List.mem_of_getElem? HM.out)))
                have HBD : Hid (allD us = false) := hbad
                clear hbad
                have hd' : u < 48 ∨ 57 < u := by omega
                clear hd
                rcases hd' with hd' | hd'
                · go_wp2
                  go_ret
                  exact ⟨by rw [HE.out, HBD.out]; rfl, hb⟩
                · go_wp2
                  go_ret
                  exact ⟨by rw [HE.out, HBD.out]; rfl, hb⟩
            · have hke : k = us.length := by omega
              subst hke
              rw [List.take_length] at hvb hal ⊢
              obtain ⟨N, hN⟩ : ∃ N, N = valD us := ⟨_, rfl⟩
              rw [← hN] at hvb ⊢
              have HN : Hid (N = valD us) := hN
              clear hN
              by_cases hbig : 4294967295 ≤ N
              · have e2 : ixOf us = -1 := by rw [HE.out, hal.out, ← HN.out]; simp [hbig]
                have HE2 := (show Hid _ from e2)
                have kb : (4294967295 : Int) ≤ (N : Int) := by omega
                clear e2 hbig
                go_wp2
                go_ret
                exact ⟨by rw [HE2.out]; rfl, hb⟩
              · have e2 : ixOf us = (N : Int) := by rw [HE.out, hal.out, ← HN.out]; simp [hbig]
                have HE2 := (show Hid _ from e2)
                have kb : ¬ (4294967295 : Int) ≤ (N : Int) := by omega
                clear e2 hbig
                go_wp2
                go_ret
                exact ⟨by rw [HE2.out]; rfl, hb⟩
end Go.Proofs.YtmicdbplkfdfnaaGreatDoor
set_option linter.unusedVariables false
namespace Go.Proofs.YtmicdbplkfdfnaaGreatDoor
open Go.RowKit Go.Shelf

theorem pb_no {L : List Nat} {p : Int} {b : Bool} (h : (ixOf L < 0 ∧ p = 0 ∧ b = false) ∨ (ixOf L = p ∧ 0 ≤ p ∧ b = true)) (e : ixOf L = -1) : p = 0 ∧ b = false := by
  rcases h with ⟨_, h1, h2⟩ | ⟨h1, h2, _⟩
  · exact ⟨h1, h2⟩
  · omega
theorem pb_yes {L : List Nat} {p : Int} {b : Bool} (h : (ixOf L < 0 ∧ p = 0 ∧ b = false) ∨ (ixOf L = p ∧ 0 ≤ p ∧ b = true)) {v : Nat} (e : ixOf L = (v : Int)) : p = (v : Int) ∧ b = true := by
  rcases h with ⟨h0, h1, h2⟩ | ⟨h1, h2, h3⟩
  · omega
  · exact ⟨by omega, h3⟩
set_option maxRecDepth 100000 in
set_option maxHeartbeats 2000000 in
theorem place_any (T : ByteArray) (L : List Nat) (hL : bytes T = L) (p : Int) (b : Bool) (hpb : (ixOf L < 0 ∧ p = 0 ∧ b = false) ∨ (ixOf L = p ∧ 0 ≤ p ∧ b = true)) (w : World) :
    Calls Tryz.prog 79 #[.string T] w fun e w' => e = .returned (.tuple #[.int .u32 p, .bool b]) ∧ w' = w := by
  have hsz : T.size = L.length := by rw [← hL, bytes_len]
  have hat : ∀ (k u : Nat), L[k]? = some u → u < 256 ∧ ∀ w, (Instr.index 9 (.string T) (.int .i64 (k : Int))).run Tryz.prog w = .ok (.int .u8 (u : Int)) w := by
    intro k u h
    have hk : k < L.length := (List.getElem?_eq_some_iff.1 h).1
    refine ⟨by have := bytes_lt T; rw [hL] at this; exact this u (List.mem_of_getElem? h), fun w => ?_⟩
    have ha := bytes_at T k (by omega)
    rw [hL, h] at ha
    rw [run_index_string w 9 T .i64 _ Tryz.underlying9, dif_pos ⟨by omega, by omega⟩]
    have e : (T[(k : Int).toNat]'(by simp; omega)).toNat = u := ha
    exact congrArg (fun z : Nat => Result.ok (Value.int IntKind.u8 (z : Int)) w) e
  have HAT := (show Hid _ from hat)
  have HPB := (show Hid _ from hpb)
  obtain ⟨N, hN⟩ : ∃ N, T.size = N := ⟨_, rfl⟩
  have hNL : N = L.length := by omega
  clear hat hsz hpb
  by_cases h0 : L.length = 0
  · have e : ixOf L = -1 := by unfold ixOf; rw [if_pos (Or.inl h0)]
    obtain ⟨rfl, rfl⟩ := pb_no HPB.out e
    have hT0 : T = ⟨#[]⟩ := by
      have : T.size = 0 := by omega
      obtain ⟨d⟩ := T
      simp [ByteArray.size] at this
      rw [this]
    subst hT0
    clear e hL HAT hN hNL HPB
    go_enter Tryz.func79, Tryz.ntmps79
    go_wp2
    go_ret2
    exact ⟨rfl, rfl⟩
  · have hne : T.toList.isEmpty = false := by
      rw [Lib.toList_data]
      cases h : T.data.toList with
      | nil => exact absurd (by rw [← hNL, ← hN, Lib.size_eq, h]; rfl) h0
      | cons _ _ => rfl
    by_cases h10 : 10 < L.length
    · have e : ixOf L = -1 := by unfold ixOf; rw [if_pos (Or.inr (Or.inl h10))]
      obtain ⟨rfl, rfl⟩ := pb_no HPB.out e
      have k1 : (10 : Int) < (N : Int) := by omega
      clear e hL HAT HPB
      go_enter Tryz.func79, Tryz.ntmps79
      go_wp2
      go_ret2
      exact ⟨rfl, rfl⟩
    · obtain ⟨u0, hu0⟩ : ∃ u0, L[0]? = some u0 := ⟨_, List.getElem?_eq_getElem (by omega)⟩
      obtain ⟨hul0, j0'⟩ := HAT.out 0 u0 hu0
      have j0 : ∀ w, (Instr.index 9 (.string T) (.int .i64 0)).run Tryz.prog w = .ok (.int .u8 (u0 : Int)) w := j0'
      clear j0'
      have hh : L.headD 0 = u0 := by cases L with | nil => simp at hu0 | cons a l => simpa using hu0
      have k1 : ¬ (10 : Int) < (N : Int) := by omega
      have k2 : (0 : Int) < (N : Int) := by omega
      clear hL hu0
      by_cases hz : u0 = 48 ∧ 1 < L.length
      · have e : ixOf L = -1 := by unfold ixOf; rw [if_pos (Or.inr (Or.inr ⟨hh.trans hz.1, hz.2⟩))]
        obtain ⟨rfl, rfl⟩ := pb_no HPB.out e
        have kz : ((u0 : Int) == 48) = true := by simp [hz.1]
        have k3 : (1 : Int) < (N : Int) := by omega
        clear e hz hh HAT HPB
        go_enter Tryz.func79, Tryz.ntmps79
        go_wp2
        go_ret2
        exact ⟨rfl, rfl⟩
      · have e : ixOf L = if allD L then (if 4294967295 ≤ valD L then -1 else (valD L : Int)) else -1 := by
          unfold ixOf
          rw [if_neg]
          rintro (h | h | h)
          · exact h0 h
          · exact h10 h
          · exact hz ⟨hh.symm.trans h.1, h.2⟩
        have HE := (show Hid _ from e)
        have hzz : ((u0 : Int) == 48) = false ∨ (((u0 : Int) == 48) = true ∧ ¬ (1 : Int) < (N : Int)) := by
          by_cases h48 : u0 = 48
          · right
            refine ⟨by simp [h48], fun h => hz ⟨h48, by omega⟩⟩
          · left
            rw [beq_eq_false_iff_ne]; omega
        clear hz e hh
        rcases hzz with kz | ⟨kz, kz2⟩
        all_goals
          go_enter Tryz.func79, Tryz.ntmps79
          go_wp2
          clear j0 kz
          go_loopw [4, 5, 25] (fun n _ i wr => ∃ k : Nat, k ≤ L.length ∧ i = .int .i64 k ∧ n = .int .u64 ((valD (L.take k) : Nat) : Int) ∧ Hid (allD (L.take k) = true) ∧ wr = w)
            (fun _ _ i _ => L.length - (intOf i).toNat)
          case atStart => exact ⟨0, Nat.zero_le _, rfl, rfl, (show allD _ = true from rfl), rfl⟩
          case round =>
            obtain ⟨k, hk, rfl, rfl, hal, rfl⟩ := hrel
            have hvl := valD_lt (L.take k).length (L.take k) rfl hal.out
            have hkl : (L.take k).length = k := by rw [List.length_take]; omega
            rw [hkl] at hvl
            have h9 : 10 ^ k ≤ 10 ^ 10 := Nat.pow_le_pow_right (by omega) (by omega)
            have hvb : valD (L.take k) ≤ 10000000000 := by omega
            clear hvl h9 hkl
            by_cases hlt : k < L.length
            · obtain ⟨u, hu1⟩ : ∃ u, L[k]? = some u := ⟨_, List.getElem?_eq_getElem hlt⟩
              obtain ⟨hul, jk⟩ := HAT.out k u hu1
              have hsn : L.take (k + 1) = L.take k ++ [u] := by rw [List.take_add_one, hu1]; rfl
              have HSN : Hid (L.take (k + 1) = L.take k ++ [u]) := hsn
              have HM : Hid (L[k]? = some u) := hu1
              clear hsn hu1
              obtain ⟨M, hM⟩ : ∃ M, M = valD (L.take k) := ⟨_, rfl⟩
              rw [← hM] at hvb ⊢
              have HN : Hid (M = valD (L.take k)) := hM
              clear hM
              by_cases hd : 48 ≤ u ∧ u ≤ 57
              · obtain ⟨hd1, hd2⟩ := hd
                have v1 : IntKind.u64.wrap (10 * (M : Int)) = 10 * (M : Int) := by rw [IntKind.wrap_u64]; omega
                have v2 : IntKind.u8.wrap ((u : Int) - 48) = (u : Int) - 48 := by rw [IntKind.wrap_u8]; omega
                have v3 : IntKind.u64.wrap ((u : Int) - 48) = (u : Int) - 48 := by rw [IntKind.wrap_u64]; omega
                have v4 : IntKind.u64.wrap (10 * (M : Int) + ((u : Int) - 48)) = 10 * (M : Int) + ((u : Int) - 48) := by rw [IntKind.wrap_u64]; omega
                go_wp2
                go_roundw
                case rel => exact ⟨k + 1, by omega, by go_num, by rw [HSN.out, valD_snoc, ← HN.out]; congr 1; omega, (show allD _ = true by rw [HSN.out, allD_snoc, hal.out]; simp; omega), trivial⟩
                case measure => simp [intOf]; omega
              · have hbad : allD L = false := by
                  rw [Bool.eq_false_iff]
                  intro h
                  rw [allD, List.all_eq_true] at h
                  exact hd (of_decide_eq_true (h u (List.mem_of_getElem? HM.out)))
                obtain ⟨hp0, hb0⟩ := pb_no HPB.out (by rw [HE.out, hbad]; rfl)
                have HP0 : Hid (p = 0 ∧ b = false) := ⟨hp0, hb0⟩
                have hd' : u < 48 ∨ 57 < u := by omega
                clear hd hbad hp0 hb0
                rcases hd' with hd' | hd'
                · go_wp2
                  go_ret2
                  exact ⟨by rw [HP0.out.1, HP0.out.2]; rfl, rfl⟩
                · go_wp2
                  go_ret2
                  exact ⟨by rw [HP0.out.1, HP0.out.2]; rfl, rfl⟩
            · have hke : k = L.length := by omega
              subst hke
              rw [List.take_length] at hvb hal ⊢
              obtain ⟨M, hM⟩ : ∃ M, M = valD L := ⟨_, rfl⟩
              rw [← hM] at hvb ⊢
              have HN : Hid (M = valD L) := hM
              clear hM
              by_cases hbig : 4294967295 ≤ M
              · have e2 : ixOf L = -1 := by rw [HE.out, hal.out, ← HN.out]; simp [hbig]
                have HP0 : Hid (p = 0 ∧ b = false) := pb_no HPB.out e2
                have kb : (4294967294 : Int) < (M : Int) := by omega
                clear e2 hbig
                go_wp2
                go_ret2
                exact ⟨by rw [HP0.out.1, HP0.out.2]; rfl, rfl⟩
              · have e2 : ixOf L = (M : Int) := by rw [HE.out, hal.out, ← HN.out]; simp [hbig]
                have HP0 : Hid (p = (M : Int) ∧ b = true) := pb_yes HPB.out e2
                have kb : ¬ (4294967294 : Int) < (M : Int) := by omega
                have v5 : IntKind.u32.wrap (M : Int) = (M : Int) := by rw [IntKind.wrap_u32]; omega
                clear e2 hbig
                go_wp2
                go_ret2
                exact ⟨by rw [HP0.out.1, HP0.out.2]; rfl, rfl⟩
end Go.Proofs.YtmicdbplkfdfnaaGreatDoor
set_option linter.unusedVariables false
namespace Go.Proofs.YtmicdbplkfdfnaaGreatDoor
open Go.RowKit Go.Shelf

theorem pts_low : ∀ (l : List Nat), (∀ u ∈ l, u < 55296) → Un.pts l = l
  | [], _ => rfl
  | [u], _ => rfl
  | u :: v :: t, h => by
    have hu := h u (by simp)
    have e : (Un.isF u && Un.isS v) = false := by
      unfold Un.isF
      rw [decide_eq_false (show ¬ 55296 ≤ u by omega)]
      rfl
    unfold Un.pts
    rw [if_neg (by rw [e]; simp), pts_low (v :: t) (fun x hx => h x (List.mem_cons_of_mem _ hx))]
theorem encR_low (r : Nat) (h : r < 128) : Un.encR r = [r] := by unfold Un.encR; rw [if_pos h]
theorem flat_one {f : Nat → List Nat} : ∀ (l : List Nat), (∀ r ∈ l, f r = [r]) → l.flatMap f = l
  | [], _ => rfl
  | a :: l, h => by
    rw [List.flatMap_cons, h a (by simp), flat_one l (fun r hr => h r (List.mem_cons_of_mem _ hr))]
    rfl
theorem allD_iff (l : List Nat) : allD l = true ↔ ∀ u ∈ l, 48 ≤ u ∧ u ≤ 57 := by
  rw [allD, List.all_eq_true]
  exact ⟨fun h u hu => of_decide_eq_true (h u hu), fun h u hu => decide_eq_true (h u hu)⟩
/-- Digits are written as they are. -/
theorem txtB_digits (us : List Nat) (h : allD us = true) : txtB us = us := by
  rw [allD_iff] at h
  unfold txtB
  rw [pts_low us (fun u hu => by have := h u hu; omega)]
  exact flat_one us (fun r hr => encR_low r (by have := h r hr; omega))
/-- What is digits when it is written was digits. -/
theorem digits_txtB (us : List Nat) (hu : ∀ u ∈ us, u < 65536) (h : allD (txtB us) = true) : allD us = true := by
  rw [allD_iff] at h ⊢
  have hp : ∀ r ∈ Un.pts us, 48 ≤ r ∧ r ≤ 57 := by
    intro r hr
    have hb : ∀ b ∈ Un.encR r, 48 ≤ b ∧ b ≤ 57 := fun b hb => h b (List.mem_flatMap.2 ⟨r, hr, hb⟩)
    by_cases h1 : r < 128
    · rw [encR_low r h1] at hb
      exact hb r (by simp)
    · exfalso
      unfold Un.encR at hb
      rw [if_neg h1] at hb
      split at hb
      · have := hb (192 + r / 64) (by simp); omega
      · split at hb
        · have := hb (224 + r / 4096) (by simp); omega
        · have := hb (240 + r / 262144) (by simp); omega
  have e := Un.pts_unR us hu
  rw [flat_one (Un.pts us) (fun r hr => by unfold Un.unR; rw [if_pos (by have := hp r hr; omega)])] at e
  rw [e] at hp
  exact hp
theorem ixOf_no {l : List Nat} (h : allD l = false) : ixOf l = -1 := by
  unfold ixOf
  rw [h]
  simp
theorem ix_txt (us : List Nat) (hu : ∀ u ∈ us, u < 65536) : ixOf (bytes (txt us)) = ixOf us := by
  rw [bytes_txt us hu]
  cases h : allD us with
  | true => rw [txtB_digits us h]
  | false =>
    rw [ixOf_no h]
    apply ixOf_no
    rw [Bool.eq_false_iff]
    intro hc
    rw [digits_txtB us hu hc] at h
    cases h
/-- The key that a list of units is. -/
def keyN (us : List Nat) : ByteArray := if ixOf us < 0 then txt us else ⟨#[]⟩
def keyP (us : List Nat) : Int := if ixOf us < 0 then 0 else ixOf us
def keyI (us : List Nat) : Bool := !decide (ixOf us < 0)
theorem keyOfText_any (us : List Nat) (hu : ∀ u ∈ us, u < 65536) (w : World) :
    Calls Tryz.prog 52 #[.string (txt us)] w fun e w' => e = .returned (.agg #[.string (keyN us), .int .u32 (keyP us), .bool (keyI us)]) ∧ Below w.heap.size w w' := by
  have hix := ix_txt us hu
  unfold keyN keyP keyI
  by_cases hn : ixOf us < 0
  · rw [if_pos hn, if_pos hn, decide_eq_true hn, Bool.not_true]
    have cp := place_any (txt us) _ rfl 0 false (Or.inl ⟨by rw [hix]; exact hn, rfl, rfl⟩)
    generalize txt us = T at *
    clear hix hn
    go_enter Tryz.func52, Tryz.ntmps52
    go_wp2_with (first | (go_at_call 79; refine (cp _).mono ?_; rintro e w1 ⟨rfl, rfl⟩))
    refine bodyPost_ret (results_cell_row rfl _ _ w.heap.size 67 _ (0, 0) _ rfl (heap_alloc_new _ _) Tryz.underlying67 rfl (by kernel_rfl)) rfl ?_
    exact ⟨rfl, (Below.refl _ _).alloc (Nat.le_refl _) _⟩
  · rw [if_neg hn, if_neg hn, decide_eq_false hn, Bool.not_false]
    obtain ⟨p, hp⟩ : ∃ p, p = ixOf us := ⟨_, rfl⟩
    have cp := place_any (txt us) _ rfl p true (Or.inr ⟨by rw [hix, hp], by omega, rfl⟩)
    rw [← hp]
    generalize txt us = T at *
    clear hix hn hp
    go_enter Tryz.func52, Tryz.ntmps52
    go_wp2_with (first | (go_at_call 79; refine (cp _).mono ?_; rintro e w1 ⟨rfl, rfl⟩))
    refine bodyPost_ret (results_cell_row rfl _ _ w.heap.size 67 _ (0, 0) _ rfl (heap_alloc_new _ _) Tryz.underlying67 rfl (by kernel_rfl)) rfl ?_
    exact ⟨rfl, (Below.refl _ _).alloc (Nat.le_refl _) _⟩
theorem heap_setCell {w : World} {g : Nat} {C : Array Value} {t : TypeId} {fr : Nat × Nat} (h : w.heap[g]? = some (Obj.cells C t fr)) (j : Nat) (v : Value) : (w.setCell ⟨g, j, none⟩ v).heap[g]? = some (Obj.cells (C.setIfInBounds j v) t fr) := by
  simp only [World.setCell, Array.getElem?_modify, h]
  simp
theorem keyOf_any (s : ByteArray) (hs : s.size ≤ 2000000) (w : World) (hT : Lib.Utf8Tabs 2 3 w) :
    Calls Tryz.prog 26 #[.string s] w fun e w' => e = .returned (.agg #[.string (keyN (unitsS s)), .int .u32 (keyP (unitsS s)), .bool (keyI (unitsS s))]) ∧ Below w.heap.size w w' := by
  obtain ⟨W0, hW0⟩ : ∃ W0, W0 = w.alloc (.cells #[.string ⟨#[]⟩, .int .u32 0, .bool false] 67) := ⟨_, rfl⟩
  have hbz : Below w.heap.size w W0 := by rw [hW0]; exact (Below.refl _ _).alloc (Nat.le_refl _) _
  have hzb : W0.heap[w.heap.size]? = some (Obj.cells #[.string ⟨#[]⟩, .int .u32 0, .bool false] 67 (0, 0)) := by rw [hW0]; exact heap_alloc_new w _
  have hzs : W0.heap.size = w.heap.size + 1 := by rw [hW0]; simp
  have c1 := textOf_any s hs W0 (tabs_below hT hbz)
  have c2 := fun w => keyOfText_any (unitsS s) (unitsS_lt s) w
  generalize txt (unitsS s) = T at *
  generalize keyN (unitsS s) = A at *
  generalize keyP (unitsS s) = P at *
  generalize keyI (unitsS s) = I at *
  clear hT
  go_enter Tryz.func26, Tryz.ntmps26
  go_wp2_with (first | (go_at_call 53; fail))
  rw [← hW0]
  clear hW0
  refine c1.mono ?_
  rintro e w1 ⟨rfl, hb1⟩
  clear c1
  go_wp2_with (first | (go_at_call 52; fail))
  refine (c2 w1).mono ?_
  rintro e w2 ⟨rfl, hb2⟩
  clear c2
  have hb02 : Below W0.heap.size W0 w2 := hb1.trans (hb2.mono hb1.size)
  have hz2 : w2.heap[w.heap.size]? = some (Obj.cells #[.string ⟨#[]⟩, .int .u32 0, .bool false] 67 (0, 0)) := (hb02.block _ (by omega)).trans hzb
  have hbw : Below w.heap.size w w2 := hbz.trans (hb02.mono (by omega))
  have k0 : w2.cell? ⟨w.heap.size, 0, none⟩ = some (.string ⟨#[]⟩) := by simp [World.cell?, hz2]
  have k1 : w2.cell? ⟨w.heap.size, 1, none⟩ = some (.int .u32 0) := by simp [World.cell?, hz2]
  have k2 : w2.cell? ⟨w.heap.size, 2, none⟩ = some (.bool false) := by simp [World.cell?, hz2]
  have f0 : w2.frozen? ⟨w.heap.size, 0, none⟩ = false := by simp [World.frozen?, hz2]
  have f1 : w2.frozen? ⟨w.heap.size, 1, none⟩ = false := by simp [World.frozen?, hz2]
  have f2 : w2.frozen? ⟨w.heap.size, 2, none⟩ = false := by simp [World.frozen?, hz2]
  have HB : Hid (Below w.heap.size w w2) := hbw
  have HZ : Hid (w2.heap[w.heap.size]? = some (Obj.cells #[.string ⟨#[]⟩, .int .u32 0, .bool false] 67 (0, 0))) := hz2
  clear hb1 hb2 hb02 hbw hz2 hzb hzs hbz
  go_wp2
  have hz3 := heap_setCell (heap_setCell (heap_setCell HZ.out 0 (.string A)) 1 (.int .u32 P)) 2 (.bool I)
  refine bodyPost_ret (results_cell_row rfl _ _ w.heap.size 67 _ (0, 0) _ rfl hz3 Tryz.underlying67 rfl (by kernel_rfl)) rfl ?_
  exact ⟨rfl, ((HB.out.setCell (Nat.le_refl _) _).setCell (Nat.le_refl _) _).setCell (Nat.le_refl _) _⟩
end Go.Proofs.YtmicdbplkfdfnaaGreatDoor
