/- The written number taken apart: digits, exponent. -/
import Derived.Test.YtellndmbllmjgaaGreatDoorFtA
import Derived.Lib.AtoiErrMem
set_option linter.unusedVariables false
namespace Go.Proofs.YtellndmbllmjgaaGreatDoor
open Go.RowKit Go.Shelf Go.Sort Fs Fl

theorem index_at (c : UInt8) (b : List UInt8) : ∀ (a : List UInt8), (∀ x ∈ a, x ≠ c) → Lib.index (a ++ c :: b) [c] = (a.length : Int)
  | [], _ => by
    simp [Lib.index]
  | x :: a, h => by
    have hx : x ≠ c := h x (by simp)
    have ih := index_at c b a (fun y hy => h y (by simp [hy]))
    have hp : [c].isPrefixOf (x :: (a ++ c :: b)) = false := by
      simp [List.isPrefixOf]
      exact fun e => hx e.symm
    rw [List.cons_append, Lib.index, hp, ih]
    simp
theorem index_none (c : UInt8) : ∀ (a : List UInt8), (∀ x ∈ a, x ≠ c) → Lib.index a [c] = -1
  | [], _ => by simp [Lib.index]
  | x :: a, h => by
    have hx : x ≠ c := h x (by simp)
    have ih := index_none c a (fun y hy => h y (by simp [hy]))
    have hp : [c].isPrefixOf (x :: a) = false := by
      simp [List.isPrefixOf]
      exact fun e => hx e.symm
    rw [Lib.index, hp, ih]
    simp
theorem cut_at (c : UInt8) (a b : List UInt8) (h : ∀ x ∈ a, x ≠ c) : Lib.cut (a ++ c :: b) [c] = (a, b, true) := by
  unfold Lib.cut
  rw [index_at c b a h, if_pos (by omega)]
  simp
theorem count_none (c : UInt8) (a : List UInt8) (h : ∀ x ∈ a, x ≠ c) : Lib.count a [c] = 0 := by
  unfold Lib.count Lib.countFrom
  rw [index_none c a h]
  rfl
theorem count_one (c : UInt8) (a b : List UInt8) (h : ∀ x ∈ a, x ≠ c) (h2 : ∀ x ∈ b, x ≠ c) : Lib.count (a ++ c :: b) [c] = 1 := by
  unfold Lib.count Lib.countFrom
  rw [index_at c b a h]
  have hd : (a ++ c :: b).drop ((a.length : Int).toNat + [c].length) = b := by simp
  have hb : ((a.length : Int) == -1) = false := by rw [beq_eq_false_iff_ne]; omega
  rw [hd, hb]
  have : Lib.countFrom [c] (a ++ c :: b).length b = 0 := by
    cases h3 : (a ++ c :: b).length with
    | zero => rfl
    | succ n =>
      unfold Lib.countFrom
      rw [index_none c b h2]
      rfl
  rw [this]
  rfl
theorem replace_one (c : UInt8) (a b : List UInt8) (h : ∀ x ∈ a, x ≠ c) (h2 : ∀ x ∈ b, x ≠ c) : Lib.replace (a ++ c :: b) [c] [] 1 = a ++ b := by
  unfold Lib.replace Lib.replaceNum
  rw [count_one c a b h h2]
  have e1 : ([c] == ([] : List UInt8)) = false := rfl
  have e2 : (if (1 : Int) < 0 ∨ ((1 : Nat) : Int) < 1 then 1 else (1 : Int).toNat) = 0 + 1 := by simp
  rw [e1, e2, Lib.replaceK_hit [c] [] 0 (a ++ c :: b) a.length (index_at c b a h)]
  simp [Lib.replaceK]
theorem replace_none (c : UInt8) (a : List UInt8) (h : ∀ x ∈ a, x ≠ c) : Lib.replace a [c] [] 1 = a := by
  unfold Lib.replace Lib.replaceNum
  rw [count_none c a h]
  simp [Lib.replaceK]
theorem exp_all : ∀ a : Fin 1000, Lib.decNat ((expD a.val).map UInt8.ofNat) = some a.val := by decide +kernel
theorem exp_read (a : Nat) (h : a < 1000) : Lib.decNat ((expD a).map UInt8.ofNat) = some a := exp_all ⟨a, h⟩
theorem exp_len (a : Nat) : (expD a).length ≤ 3 := by
  unfold expD
  split
  · simp
  · split <;> simp
end Go.Proofs.YtellndmbllmjgaaGreatDoor
/- The walk of num.shortest. -/
set_option linter.unusedVariables false
namespace Go.Proofs.YtellndmbllmjgaaGreatDoor
open Go.RowKit Go.Shelf Go.Sort Fs Fl

theorem txt_list (l : List Nat) : (txt l).data.toList = l.map UInt8.ofNat := by simp [txt]
theorem txt_size (l : List Nat) : (txt l).size = l.length := by simp [txt, ByteArray.size]
/-- The digits as they stand ahead of 'e'. -/
def mantS (D : List Nat) : List Nat := [D.headD 0] ++ (if D.tail = [] then [] else [46] ++ D.tail)
def expS (x : Int) : List Nat := (if decide (x < 0) then 45 else 43) :: expD x.natAbs
theorem fmtS_eq (D : List Nat) (x : Int) : fmtS D x = mantS D ++ 101 :: expS x := by
  unfold fmtS fmtE mantS expS
  simp
theorem ofNat_ne {a b : Nat} (ha : a < 256) (hb : b < 256) (h : a ≠ b) : UInt8.ofNat a ≠ UInt8.ofNat b := by
  intro e
  have := congrArg UInt8.toNat e
  rw [UInt8.toNat_ofNat', UInt8.toNat_ofNat', Nat.mod_eq_of_lt ha, Nat.mod_eq_of_lt hb] at this
  exact h this
theorem digits_no (D : List Nat) (hD : ∀ b ∈ D, b < 58 ∧ 48 ≤ b) (c : Nat) (hc : c = 46 ∨ c = 101) : ∀ x ∈ D.map UInt8.ofNat, x ≠ UInt8.ofNat c := by
  intro x hx
  obtain ⟨b, hb, rfl⟩ := List.mem_map.1 hx
  have := hD b hb
  exact ofNat_ne (by omega) (by omega) (by omega)
theorem decN_ge (d : Nat) : ∀ b ∈ decN d, b < 58 ∧ 48 ≤ b := by
  intro b hb
  obtain ⟨j, hj, rfl⟩ := List.mem_iff_getElem.1 hb
  have h1 : (decN d)[j]? = some (decN d)[j] := List.getElem?_eq_getElem hj
  rw [decN_length] at hj
  rw [decN_at d j hj] at h1
  have : d / 10 ^ (Lib.nDigits d - 1 - j) % 10 < 10 := Nat.mod_lt _ (by omega)
  have := Option.some.inj h1
  omega
theorem mant_cases (D : List Nat) (hne : D ≠ []) : ∃ c0 rest, D = c0 :: rest ∧ ((rest = [] ∧ mantS D = D) ∨ (rest ≠ [] ∧ mantS D = [c0] ++ 46 :: rest)) := by
  cases D with
  | nil => exact absurd rfl hne
  | cons c0 rest =>
    refine ⟨c0, rest, rfl, ?_⟩
    cases rest with
    | nil => exact Or.inl ⟨rfl, rfl⟩
    | cons a l => exact Or.inr ⟨by simp, rfl⟩
theorem mant_no101 (D : List Nat) (hne : D ≠ []) (hD : ∀ b ∈ D, b < 58 ∧ 48 ≤ b) : ∀ x ∈ (mantS D).map UInt8.ofNat, x ≠ 101 := by
  obtain ⟨c0, rest, rfl, h⟩ := mant_cases D hne
  rcases h with ⟨_, h⟩ | ⟨_, h⟩
  · rw [h]
    exact digits_no _ hD 101 (Or.inr rfl)
  · rw [h]
    intro x hx
    obtain ⟨b, hb, rfl⟩ := List.mem_map.1 hx
    have hb' : b < 58 := by
      simp at hb
      rcases hb with hb | hb | hb
      · rw [hb]; exact (hD c0 (by simp)).1
      · omega
      · exact (hD b (by simp [hb])).1
    exact ofNat_ne (b := 101) (by omega) (by omega) (by omega)
theorem mant_replace (D : List Nat) (hne : D ≠ []) (hD : ∀ b ∈ D, b < 58 ∧ 48 ≤ b) : Lib.replace ((mantS D).map UInt8.ofNat) [46] [] 1 = D.map UInt8.ofNat := by
  obtain ⟨c0, rest, rfl, h⟩ := mant_cases D hne
  rcases h with ⟨_, h⟩ | ⟨_, h⟩
  · rw [h]
    exact replace_none 46 _ (digits_no _ hD 46 (Or.inl rfl))
  · rw [h]
    have h1 := digits_no [c0] (fun b hb => hD b (by simp at hb; simp [hb])) 46 (Or.inl rfl)
    have h2 := digits_no rest (fun b hb => hD b (by simp [hb])) 46 (Or.inl rfl)
    have := replace_one 46 ([c0].map UInt8.ofNat) (rest.map UInt8.ofNat) h1 h2
    simpa using this
theorem exp_atoi (x : Int) (h1 : -1000 < x) (h2 : x < 1000) : Lib.atoi ((expS x).map UInt8.ofNat) = some x := by
  unfold expS
  rw [List.map_cons]
  have he := exp_read x.natAbs (by omega)
  rcases Int.lt_or_le x 0 with h | h
  · rw [decide_eq_true h]
    simp only [if_true, Lib.atoi]
    rw [he]
    simp
    omega
  · rw [decide_eq_false (by omega)]
    simp only [Lib.atoi]
    rw [he]
    simp
    omega
/-- Two cells, written one behind the other. -/
theorem heap_two {w : World} {g : Nat} {a b : Value} {t : TypeId} {fr : Nat × Nat} (h : w.heap[g]? = some (Obj.cells #[a, b] t fr)) (a' b' : Value) : ((w.setCell ⟨g, 0, none⟩ a').setCell ⟨g, 1, none⟩ b').heap[g]? = some (Obj.cells #[a', b'] t fr) := by
  rw [setCell_eq, setCell_eq, mapBlock_mapBlock]
  simp only [mapBlock, Array.getElem?_modify, if_true]
  rw [h]
  rfl
set_option maxRecDepth 100000 in
set_option maxHeartbeats 1000000 in
theorem shortest_any (r : Nat) (h0 : 0 < r) (h1 : r < 9218868437227405312) (w : World) (hlaid : Laid w) :
    Calls Tryz.prog 26 #[.float .f64 r] w fun rr w' => ∃ d0 J, Fs.Told (magR r) (expR r) d0 J ∧ 0 < d0 ∧ d0 < 1152921504606846976 ∧ J < 1000 ∧ rr = .returned (.agg #[.string (txt (decN d0)), .int .i64 ((Lib.nDigits d0 : Int) + (J : Int) - 400)]) ∧ Below w.heap.size w w' := by
  obtain ⟨W0, hW0⟩ : ∃ W0, W0 = w.alloc (.cells #[.string ⟨#[]⟩, .int .i64 0] 46) := ⟨_, rfl⟩
  have hbz : Below w.heap.size w W0 := by rw [hW0]; exact (Below.refl _ _).alloc (Nat.le_refl _) _
  have hzb : W0.heap[w.heap.size]? = some (Obj.cells #[.string ⟨#[]⟩, .int .i64 0] 46 (0, 0)) := by rw [hW0]; exact heap_alloc_new w _
  have hzs : W0.heap.size = w.heap.size + 1 := by rw [hW0]; simp
  have cf := format_any r h0 h1 W0 (hlaid.below hbz)
  have HLA : Hid (Laid w) := hlaid
  clear hlaid
  go_enter Tryz.func26, Tryz.ntmps26
  go_wp2_with (first | (go_at_call 73; fail))
  rw [← hW0]
  clear hW0
  refine cf.mono ?_
  rintro ee w1 ⟨d0, J, hT, hd0, hd1, hJ, rfl, hb⟩
  clear cf
  rw [hzs] at hb
  have hnl : Lib.nDigits d0 ≤ 19 := nDigits_le d0 19 (by omega) (by omega)
  have hnp := Lib.nDigits_pos d0
  have hne : decN d0 ≠ [] := fun h => by have := decN_length d0; rw [h] at this; simp at this; omega
  have hD := decN_ge d0
  obtain ⟨x, hx⟩ : ∃ x : Int, x = (Lib.nDigits d0 : Int) + (J : Int) - 401 := ⟨_, rfl⟩
  have hxa : -1000 < x := by omega
  have hxb : x < 1000 := by omega
  have hb1 : Below w.heap.size w w1 := hbz.trans (hb.mono (by omega))
  have hz1 : w1.heap[w.heap.size]? = some (Obj.cells #[.string ⟨#[]⟩, .int .i64 0] 46 (0, 0)) := (hb.block _ (by omega)).trans hzb
  obtain ⟨mx, hmx⟩ := (HLA.out.below hb1).most
  have hmlen : (mantS (decN d0)).length ≤ 30 := by
    obtain ⟨c0, rest, he, h⟩ := mant_cases (decN d0) hne
    have hl := decN_length d0
    rcases h with ⟨_, h⟩ | ⟨_, h⟩
    · rw [h]; omega
    · rw [h, he] at *
      simp at hl ⊢
      omega
  have helen : (expS x).length ≤ 10 := by
    unfold expS
    have := exp_len x.natAbs
    simp
    omega
  have cc := Tryz.strings_Cut (txt (fmtS (decN d0) x)) ⟨#[101]⟩ mx w1 (by rw [txt_size, fmtS_eq]; simp; omega) hmx
  have ecut : Lib.cut (txt (fmtS (decN d0) x)).data.toList (ByteArray.mk #[101]).data.toList = ((mantS (decN d0)).map UInt8.ofNat, (expS x).map UInt8.ofNat, true) := by
    rw [txt_list, fmtS_eq, List.map_append, List.map_cons]
    exact cut_at 101 _ _ (mant_no101 (decN d0) hne hD)
  rw [ecut] at cc
  simp only at cc
  have hat := exp_atoi x hxa hxb
  have hrp := mant_replace (decN d0) hne hD
  rw [← hx]
  have HX : Hid (x = (Lib.nDigits d0 : Int) + (J : Int) - 401) := hx
  have HT : Hid (Fs.Told (magR r) (expR r) d0 J ∧ 0 < d0 ∧ d0 < 1152921504606846976 ∧ J < 1000) := ⟨hT, hd0, hd1, hJ⟩
  have HB : Hid (Below w.heap.size w w1) := hb1
  have HZ : Hid (w1.heap[w.heap.size]? = some (Obj.cells #[.string ⟨#[]⟩, .int .i64 0] 46 (0, 0))) := hz1
  clear ecut hx hT hd0 hd1 hJ hb1 hz1 hb hzb hbz hzs hnl hnp hne hD
  go_wp2_with (first | (go_at_call 72; refine cc.mono ?_; rintro ee w2 ⟨rfl, n1, rfl⟩) | (go_at_call 74; fail))
  refine (Tryz.strconv_Atoi ⟨((expS x).map UInt8.ofNat).toArray⟩ x (by simp [ByteArray.size]; omega) (by simpa using hat) (w1.drewN n1)).mono ?_
  rintro ee w2 ⟨rfl, tt, hw2⟩
  have hbe : Below (w1.drewN n1).heap.size (w1.drewN n1) w2 := by rw [hw2]; exact Lib.bytesWorld_below _ _ _
  have hs1 : w.heap.size < w1.heap.size := lt_of_get HZ.out
  have hb2 : Below w.heap.size w w2 := (below_drewN HB.out).trans (hbe.mono (Nat.le_of_lt hs1))
  have hz2 : w2.heap[w.heap.size]? = some (Obj.cells #[.string ⟨#[]⟩, .int .i64 0] 46 (0, 0)) := (hbe.block _ hs1).trans HZ.out
  have hs2 : w.heap.size < w2.heap.size := lt_of_get hz2
  obtain ⟨my, hmy⟩ := (HLA.out.below hb2).most
  have cr := Tryz.strings_Replace ⟨((mantS (decN d0)).map UInt8.ofNat).toArray⟩ ⟨#[46]⟩ ⟨#[]⟩ 1 my w2 (by simp [ByteArray.size]; omega) hmy (by decide) (by simp [ByteArray.size]; omega)
  have erp : Lib.replace (ByteArray.mk ((mantS (decN d0)).map UInt8.ofNat).toArray).data.toList (ByteArray.mk #[46]).data.toList (ByteArray.mk #[]).data.toList 1 = (decN d0).map UInt8.ofNat := hrp
  rw [erp] at cr
  have HB2 : Hid (Below w.heap.size w w2) := hb2
  have HZ2 : Hid (w2.heap[w.heap.size]? = some (Obj.cells #[.string ⟨#[]⟩, .int .i64 0] 46 (0, 0))) := hz2
  clear erp hrp hat hw2 hbe hb2 hz2 cc HB HZ hmx hmy hs1 hmlen helen
  go_wp2_with (first | (go_at_call 75; fail))
  refine cr.mono ?_
  rintro ee w3 ⟨rfl, hbe⟩
  have hb3 : Below w.heap.size w w3 := HB2.out.trans (hbe.mono (Nat.le_of_lt hs2))
  have hz3 : w3.heap[w.heap.size]? = some (Obj.cells #[.string ⟨#[]⟩, .int .i64 0] 46 (0, 0)) := (hbe.block _ hs2).trans HZ2.out
  have k0 : w3.cell? ⟨w.heap.size, 0, none⟩ = some (.string ⟨#[]⟩) := by simp [World.cell?, hz3]
  have k1 : w3.cell? ⟨w.heap.size, 1, none⟩ = some (.int .i64 0) := by simp [World.cell?, hz3]
  have f0 : w3.frozen? ⟨w.heap.size, 0, none⟩ = false := by simp [World.frozen?, hz3]
  have f1 : w3.frozen? ⟨w.heap.size, 1, none⟩ = false := by simp [World.frozen?, hz3]
  have HB3 : Hid (Below w.heap.size w w3) := hb3
  have HZ3 : Hid (w3.heap[w.heap.size]? = some (Obj.cells #[.string ⟨#[]⟩, .int .i64 0] 46 (0, 0))) := hz3
  clear hbe hb3 hz3 cr HB2 HZ2
  go_wp2
  refine bodyPost_ret (results_cell_row rfl _ _ w.heap.size 46 _ (0, 0) _ rfl (heap_two HZ3.out _ _) Tryz.underlying46 rfl (by kernel_rfl)) rfl ?_
  obtain ⟨hT, hd0, hd1, hJ⟩ := HT.out
  refine ⟨d0, J, hT, hd0, hd1, hJ, ?_, (HB3.out.setCell (Nat.le_refl _) _).setCell (Nat.le_refl _) _⟩
  have ex : x + 1 = (Lib.nDigits d0 : Int) + (J : Int) - 400 := by have := HX.out; omega
  rw [ex]
  rfl
end Go.Proofs.YtellndmbllmjgaaGreatDoor
