/- The walk of pointed. -/
import Derived.Test.YtellndmbllmjgaaGreatDoorShA
set_option linter.unusedVariables false
namespace Go.Proofs.YtellndmbllmjgaaGreatDoor
open Go.RowKit Go.Shelf Go.Sort Fs Fl

theorem txt_append (l m : List Nat) : txt l ++ txt m = txt (l ++ m) := by
  apply ByteArray.ext
  simp [txt, ByteArray.data_append]
theorem txt_extract (l : List Nat) (i j : Nat) : (txt l).extract i j = txt ((l.drop i).take (j - i)) := by
  apply ByteArray.ext
  apply Array.ext'
  simp [txt, ByteArray.data_extract, List.extract_eq_take_drop, List.map_take, List.map_drop]
theorem txt_dot : (⟨#[46]⟩ : ByteArray) = txt [46] := rfl
theorem repeat_zero (c : Nat) : (⟨(Lib.repeatL (ByteArray.mk #[48]).data.toList c).toArray⟩ : ByteArray) = txt (List.replicate c 48) := by
  have : Lib.repeatL [48] c = List.replicate c (48 : UInt8) := by
    induction c with
    | zero => rfl
    | succ c ih => rw [Lib.repeatL, ih, List.replicate_succ]; rfl
  unfold txt
  rw [List.map_replicate]
  exact congrArg (fun l : List UInt8 => (⟨l.toArray⟩ : ByteArray)) this
/-- Digits with a point ahead of the last n. -/
def padD (D : List Nat) (n : Nat) : List Nat := if D.length ≤ n then List.replicate (n + 1 - D.length) 48 ++ D else D
def ptd (D : List Nat) (n : Nat) : List Nat := if n = 0 then padD D n else (padD D n).take ((padD D n).length - n) ++ 46 :: (padD D n).drop ((padD D n).length - n)
set_option maxRecDepth 100000 in
set_option maxHeartbeats 1000000 in
theorem pointed_long (s : ByteArray) (n at' : Nat) (hn : 0 < n) (ha : 0 < at') (he : (s.size : Int) - (n : Int) = (at' : Int)) (hs : s.size ≤ 100000) (w : World) :
    Calls Tryz.prog 28 #[.string s, .int .i64 (n : Int)] w fun rr w' => rr = .returned (.string (s.extract 0 at' ++ ⟨#[46]⟩ ++ s.extract at' s.size)) ∧ Below w.heap.size w w' := by
  have t2 : ¬ (s.size : Int) ≤ (n : Int) := by omega
  have t3 : (at' : Int) ≤ (s.size : Int) := by omega
  have t1 : ((n : Int) == 0) = false := by rw [beq_eq_false_iff_ne]; omega
  go_enter Tryz.func28, Tryz.ntmps28
  go_wp2_with (first | (go_at_call 27; fail))
  go_quiet (fail)
  go_wp2
  go_ret
  exact ⟨rfl, below_drewN (Below.refl _ _)⟩
set_option maxRecDepth 100000 in
theorem pointed_zero (s : ByteArray) (h : 0 < s.size) (hs : s.size ≤ 100000) (w : World) :
    Calls Tryz.prog 28 #[.string s, .int .i64 0] w fun rr w' => rr = .returned (.string s) ∧ w' = w := by
  have t2 : ¬ s.size = 0 := by omega
  go_enter Tryz.func28, Tryz.ntmps28
  go_wp2_with (first | (go_at_call 27; fail))
  go_ret
  exact ⟨rfl, rfl⟩
set_option maxRecDepth 100000 in
set_option maxHeartbeats 1000000 in
theorem pointed_short (s : ByteArray) (n c : Nat) (hn : 0 < n) (hk : s.size ≤ n) (hc : (n : Int) + 1 - (s.size : Int) = (c : Int)) (hs : n ≤ 100000) (w : World) :
    Calls Tryz.prog 28 #[.string s, .int .i64 (n : Int)] w fun rr w' => rr = .returned (.string ((txt (List.replicate c 48) ++ s).extract 0 1 ++ ⟨#[46]⟩ ++ (txt (List.replicate c 48) ++ s).extract 1 (txt (List.replicate c 48) ++ s).size)) ∧ Below w.heap.size w w' := by
  have cr := Tryz.strings_Repeat ⟨#[48]⟩ c w (by omega) (by simp [ByteArray.size]; omega)
  rw [repeat_zero] at cr
  have hsz : (txt (List.replicate c 48) ++ s).size = n + 1 := by
    rw [ByteArray.size_append, txt_size, List.length_replicate]
    omega
  have hsum : ¬ 9223372036854775807 < (txt (List.replicate c 48)).size + s.size := by
    rw [ByteArray.size_append] at hsz
    omega
  generalize txt (List.replicate c 48) = z at *
  have t2 : (s.size : Int) ≤ (n : Int) := by omega
  have t1 : ((n : Int) == 0) = false := by rw [beq_eq_false_iff_ne]; omega
  have t4 : ((z ++ s).size : Int) = (n : Int) + 1 := by omega
  have t5 : ((n : Int) + 1) - (n : Int) = 1 := by omega
  go_enter Tryz.func28, Tryz.ntmps28
  go_wp2_with (first | (go_at_call 27; refine cr.mono ?_; rintro ee w1 ⟨rfl, hb⟩))
  go_quiet (fail)
  go_wp2
  go_ret
  exact ⟨by rw [hsz]; rfl, below_drewN hb⟩
/-- **pointed.** -/
theorem pointed_any (D : List Nat) (n : Nat) (h1 : 0 < D.length) (h2 : D.length ≤ 1000) (hn : n ≤ 1000) (w : World) :
    Calls Tryz.prog 28 #[.string (txt D), .int .i64 (n : Int)] w fun rr w' => rr = .returned (.string (txt (ptd D n))) ∧ Below w.heap.size w w' := by
  have hsz := txt_size D
  rcases Nat.eq_zero_or_pos n with h0 | h0
  · subst h0
    refine (pointed_zero (txt D) (by omega) (by omega) w).mono ?_
    rintro e w' ⟨rfl, rfl⟩
    have e1 : ptd D 0 = D := by
      unfold ptd padD
      rw [if_pos rfl, if_neg (by omega)]
    rw [e1]
    exact ⟨rfl, Below.refl _ _⟩
  · rcases Nat.lt_or_ge n D.length with hlt | hge
    · refine (pointed_long (txt D) n (D.length - n) h0 (by omega) (by omega) (by omega) w).mono ?_
      rintro e w' ⟨rfl, hb⟩
      refine ⟨?_, hb⟩
      have e1 : ptd D n = D.take (D.length - n) ++ 46 :: D.drop (D.length - n) := by
        unfold ptd padD
        rw [if_neg (by omega), if_neg (by omega)]
      have e2 : (D.drop (D.length - n)).take (D.length - (D.length - n)) = D.drop (D.length - n) := List.take_of_length_le (by rw [List.length_drop]; omega)
      rw [e1, txt_extract, txt_extract, hsz, txt_dot, txt_append, txt_append, e2]
      simp
    · obtain ⟨c, hc⟩ : ∃ c, c = n + 1 - D.length := ⟨_, rfl⟩
      refine (pointed_short (txt D) n c h0 (by omega) (by omega) (by omega) w).mono ?_
      rintro e w' ⟨rfl, hb⟩
      refine ⟨?_, hb⟩
      have e0 : (List.replicate c 48 ++ D).length = n + 1 := by
        rw [List.length_append, List.length_replicate]
        omega
      have e1 : ptd D n = (List.replicate c 48 ++ D).take 1 ++ 46 :: (List.replicate c 48 ++ D).drop 1 := by
        unfold ptd padD
        rw [if_neg (by omega), if_pos hge, ← hc, e0, show n + 1 - n = 1 by omega]
      rw [e1, txt_append, txt_size, e0, txt_extract, txt_extract, txt_dot, txt_append, txt_append]
      have e2 : ((List.replicate c 48 ++ D).drop 1).take (n + 1 - 1) = (List.replicate c 48 ++ D).drop 1 := List.take_of_length_le (by rw [List.length_drop, e0]; omega)
      rw [e2]
      simp
end Go.Proofs.YtellndmbllmjgaaGreatDoor
/- The walk of powered. -/
set_option linter.unusedVariables false
namespace Go.Proofs.YtellndmbllmjgaaGreatDoor
open Go.RowKit Go.Shelf Go.Sort Fs Fl

theorem txt_decN (a : Nat) : (⟨(Lib.decDigits a).toArray⟩ : ByteArray) = txt (decN a) := by
  unfold txt decN
  rw [List.map_map]
  congr 2
  have : (UInt8.ofNat ∘ UInt8.toNat) = id := by
    funext x
    simp
  rw [this, List.map_id]
theorem ptd_len (D : List Nat) (n : Nat) : (ptd D n).length ≤ D.length + n + 2 := by
  have hp : (padD D n).length ≤ D.length + n + 1 := by
    unfold padD
    split
    · rw [List.length_append, List.length_replicate]; omega
    · omega
  unfold ptd
  split
  · omega
  · rw [List.length_append, List.length_cons, List.length_take, List.length_drop]
    omega
/-- d.ddde+x -/
def pwd (D : List Nat) (x : Int) : List Nat := ptd D (D.length - 1) ++ [101] ++ [if x < 0 then 45 else 43] ++ decN x.natAbs
theorem txt_e : (⟨#[101]⟩ : ByteArray) = txt [101] := rfl
theorem txt_p : (⟨#[43]⟩ : ByteArray) = txt [43] := rfl
theorem txt_m : (⟨#[45]⟩ : ByteArray) = txt [45] := rfl
set_option maxRecDepth 100000 in
set_option maxHeartbeats 1000000 in
theorem powered_pos (D : List Nat) (a : Nat) (h1 : 0 < D.length) (h2 : D.length ≤ 1000) (ha : a ≤ 1000) (w : World) (hlaid : Laid w) :
    Calls Tryz.prog 29 #[.agg #[.string (txt D), .int .i64 ((a : Int) + 1)]] w fun rr w' => rr = .returned (.string (txt (pwd D (a : Int)))) ∧ Below w.heap.size w w' := by
  have hsz := txt_size D
  obtain ⟨K, hK⟩ : ∃ K, D.length = K + 1 := ⟨D.length - 1, by omega⟩
  have ek : wrap64 (((txt D).size : Int) - 1) = (K : Int) := by
    have : ((txt D).size : Int) - 1 = (K : Int) := by omega
    rw [this]
    exact wrap64_small K (by omega)
  have hlen := ptd_len D K
  have hdl := decN_length a
  have hdl2 := nDigits_le a 4 (by omega) (by omega)
  have fin : ∀ p q, p = txt (ptd D K) → q = txt (decN a) → p ++ ⟨#[101]⟩ ++ ⟨#[43]⟩ ++ q = txt (pwd D (a : Int)) := by
    rintro p q rfl rfl
    rw [txt_e, txt_p, txt_append, txt_append, txt_append]
    unfold pwd
    rw [if_neg (by omega), hK, Nat.add_sub_cancel, Int.natAbs_natCast]
  obtain ⟨W0, hW0⟩ : ∃ W0, W0 = w.alloc (.cells #[.string (txt D), .int .i64 ((a : Int) + 1)] 46) := ⟨_, rfl⟩
  have hbz : Below w.heap.size w W0 := by rw [hW0]; exact (Below.refl _ _).alloc (Nat.le_refl _) _
  have cp := pointed_any D K h1 h2 (by omega) W0
  have hp := txt_size (ptd D K)
  have hq := txt_size (decN a)
  have HL : Hid (Laid w) := hlaid
  have HF : Hid (∀ p q, p = txt (ptd D K) → q = txt (decN a) → p ++ ⟨#[101]⟩ ++ ⟨#[43]⟩ ++ q = txt (pwd D (a : Int))) := fin
  clear hlaid fin hsz
  go_enter Tryz.func29, Tryz.ntmps29
  go_wp2_with (first | (go_at_call 28; fail) | (go_at_call 82; fail))
  rw [← hW0]
  clear hW0
  refine cp.mono ?_
  rintro ee w1 ⟨rfl, hb⟩
  have hb1 : Below w.heap.size w w1 := hbz.trans (hb.mono hbz.size)
  have ci := Tryz.strconv_Itoa (a : Int) (by omega) (by omega) w1 (HL.out.below hb1).p10
  rw [Lib.itoa_nonneg, txt_decN] at ci
  obtain ⟨p, hpe⟩ : ∃ p, p = txt (ptd D K) := ⟨_, rfl⟩
  obtain ⟨q, hqe⟩ : ∃ q, q = txt (decN a) := ⟨_, rfl⟩
  rw [← hpe] at hp ⊢
  rw [← hqe] at hq ci
  have HPE : Hid (p = txt (ptd D K)) := hpe
  have HQE : Hid (q = txt (decN a)) := hqe
  have HB1 : Hid (Below w.heap.size w w1) := hb1
  have hpl : p.size ≤ 3000 := by omega
  have hql : q.size ≤ 100 := by omega
  clear cp hpe hqe hb1 hb hbz hlen hdl hp hq hdl2
  go_wp2_with (first | (go_at_call 82; refine ci.mono ?_; rintro ee w2 ⟨rfl, k, os, rfl⟩))
  go_ret
  refine ⟨?_, HB1.out.trans (Lib.below_grow _ _ HB1.out.size _ _)⟩
  rw [← HF.out p q HPE.out HQE.out]
  rfl
set_option maxRecDepth 100000 in
set_option maxHeartbeats 1000000 in
theorem powered_neg (D : List Nat) (a : Nat) (h1 : 0 < D.length) (h2 : D.length ≤ 1000) (h0 : 0 < a) (ha : a ≤ 1000) (w : World) (hlaid : Laid w) :
    Calls Tryz.prog 29 #[.agg #[.string (txt D), .int .i64 (-(a : Int) + 1)]] w fun rr w' => rr = .returned (.string (txt (pwd D (-(a : Int))))) ∧ Below w.heap.size w w' := by
  have hsz := txt_size D
  obtain ⟨K, hK⟩ : ∃ K, D.length = K + 1 := ⟨D.length - 1, by omega⟩
  have ek : wrap64 (((txt D).size : Int) - 1) = (K : Int) := by
    have : ((txt D).size : Int) - 1 = (K : Int) := by omega
    rw [this]
    exact wrap64_small K (by omega)
  have hlen := ptd_len D K
  have hdl := decN_length a
  have hdl2 := nDigits_le a 4 (by omega) (by omega)
  have fin : ∀ p q, p = txt (ptd D K) → q = txt (decN a) → p ++ ⟨#[101]⟩ ++ ⟨#[45]⟩ ++ q = txt (pwd D (-(a : Int))) := by
    rintro p q rfl rfl
    rw [txt_e, txt_m, txt_append, txt_append, txt_append]
    unfold pwd
    rw [if_pos (by omega), hK, Nat.add_sub_cancel, Int.natAbs_neg, Int.natAbs_natCast]
  obtain ⟨W0, hW0⟩ : ∃ W0, W0 = w.alloc (.cells #[.string (txt D), .int .i64 (-(a : Int) + 1)] 46) := ⟨_, rfl⟩
  have hbz : Below w.heap.size w W0 := by rw [hW0]; exact (Below.refl _ _).alloc (Nat.le_refl _) _
  have cp := pointed_any D K h1 h2 (by omega) W0
  have hp := txt_size (ptd D K)
  have hq := txt_size (decN a)
  have HL : Hid (Laid w) := hlaid
  have HF : Hid (∀ p q, p = txt (ptd D K) → q = txt (decN a) → p ++ ⟨#[101]⟩ ++ ⟨#[45]⟩ ++ q = txt (pwd D (-(a : Int)))) := fin
  clear hlaid fin hsz
  have hxe : -(a : Int) + 1 - 1 = -(a : Int) := by omega
  have hnn : - -(a : Int) = (a : Int) := by omega
  have hng : -(a : Int) < 0 := by omega
  go_enter Tryz.func29, Tryz.ntmps29
  go_wp2_with (first | (go_at_call 28; fail) | (go_at_call 82; fail))
  rw [← hW0]
  clear hW0
  refine cp.mono ?_
  rintro ee w1 ⟨rfl, hb⟩
  have hb1 : Below w.heap.size w w1 := hbz.trans (hb.mono hbz.size)
  have ci := Tryz.strconv_Itoa (a : Int) (by omega) (by omega) w1 (HL.out.below hb1).p10
  rw [Lib.itoa_nonneg, txt_decN] at ci
  obtain ⟨p, hpe⟩ : ∃ p, p = txt (ptd D K) := ⟨_, rfl⟩
  obtain ⟨q, hqe⟩ : ∃ q, q = txt (decN a) := ⟨_, rfl⟩
  rw [← hpe] at hp ⊢
  rw [← hqe] at hq ci
  have HPE : Hid (p = txt (ptd D K)) := hpe
  have HQE : Hid (q = txt (decN a)) := hqe
  have HB1 : Hid (Below w.heap.size w w1) := hb1
  have hpl : p.size ≤ 3000 := by omega
  have hql : q.size ≤ 100 := by omega
  clear cp hpe hqe hb1 hb hbz hlen hdl hp hq hdl2
  go_wp2_with (first | (go_at_call 82; refine ci.mono ?_; rintro ee w2 ⟨rfl, k, os, rfl⟩))
  go_ret
  refine ⟨?_, HB1.out.trans (Lib.below_grow _ _ HB1.out.size _ _)⟩
  rw [← HF.out p q HPE.out HQE.out]
  rfl
/-- **powered.** -/
theorem powered_any (D : List Nat) (x : Int) (h1 : 0 < D.length) (h2 : D.length ≤ 1000) (hx : -1000 ≤ x) (hx2 : x ≤ 1000) (w : World) (hlaid : Laid w) :
    Calls Tryz.prog 29 #[.agg #[.string (txt D), .int .i64 (x + 1)]] w fun rr w' => rr = .returned (.string (txt (pwd D x))) ∧ Below w.heap.size w w' := by
  rcases Int.lt_or_le x 0 with h | h
  · obtain ⟨a, rfl⟩ : ∃ a : Nat, x = -(a : Int) := ⟨x.natAbs, by omega⟩
    exact powered_neg D a h1 h2 (by omega) (by omega) w hlaid
  · obtain ⟨a, rfl⟩ : ∃ a : Nat, x = (a : Int) := ⟨x.toNat, by omega⟩
    exact powered_pos D a h1 h2 (by omega) w hlaid
end Go.Proofs.YtellndmbllmjgaaGreatDoor
