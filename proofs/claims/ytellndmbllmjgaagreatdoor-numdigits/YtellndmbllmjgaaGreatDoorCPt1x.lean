/- The walk of pointed. -/
import Derived.Test.YtellndmbllmjgaaGreatDoorCFt2x
import Derived.Test.YtellndmbllmjgaaGreatDoorCBn9x
import Derived.Deep.RegionWith
set_option linter.unusedVariables false
namespace Go.Proofs.YtellndmbllmjgaaGreatDoor
open Go.RowKit Go.Shelf Go.Sort Fs Fl

theorem txt_append (l m : List Nat) : txt l ++ txt m = txt (l ++ m) := by
  apply ByteArray.ext
  simp [txt, ByteArray.data_append]
theorem txt_extract (l : List Nat) (i j : Nat) : (txt l).extract i j = txt ((l.drop i).take (j - i)) := by
  apply ByteArray.ext
  apply Array.ext'
  simp [txt, ByteArray.data_extract, List.extract_eq_take_drop, List.map_take, List.map_drop]
theorem txt_dot : (⟨#[46]⟩ : ByteArray) = txt [46] := rfl
theorem repeat_zero (c : Nat) : (⟨(Lib.repeatL (ByteArray.mk #[48]).data.toList c).toArray⟩ : ByteArray) = txt (List.replicate c 48) := by
  have : Lib.repeatL [48] c = List.replicate c (48 : UInt8) := by
    induction c with
    | zero => rfl
    | succ c ih => rw [Lib.repeatL, ih, List.replicate_succ]; rfl
  unfold txt
  rw [List.map_replicate]
  exact congrArg (fun l : List UInt8 => (⟨l.toArray⟩ : ByteArray)) this
/-- Digits with a point ahead of the last n. -/
def padD (D : List Nat) (n : Nat) : List Nat := if D.length ≤ n then List.replicate (n + 1 - D.length) 48 ++ D else D
def ptd (D : List Nat) (n : Nat) : List Nat := if n = 0 then padD D n else (padD D n).take ((padD D n).length - n) ++ 46 :: (padD D n).drop ((padD D n).length - n)
set_option maxRecDepth 100000 in
set_option maxHeartbeats 1000000 in
theorem pointed_long (s : ByteArray) (n at' : Nat) (hn : 0 < n) (ha : 0 < at') (he : (s.size : Int) - (n : Int) = (at' : Int)) (hs : s.size ≤ 100000) (w : World) :
    Calls Tryz.prog 28 #[.string s, .int .i64 (n : Int)] w fun rr w' => rr = .returned (.string (s.extract 0 at' ++ ⟨#[46]⟩ ++ s.extract at' s.size)) ∧ Below w.heap.size w w' := by
  have t2 : ¬ (s.size : Int) ≤ (n : Int) := by omega
  have t3 : (at' : Int) ≤ (s.size : Int) := by omega
  have t1 : ((n : Int) == 0) = false := by rw [beq_eq_false_iff_ne]; omega
  go_enter Tryz.func28, Tryz.ntmps28
  go_wp2_with (first | (go_at_call 27; fail))
  go_quiet (fail)
  go_wp2
  go_ret
  exact ⟨rfl, below_drewN (Below.refl _ _)⟩
set_option maxRecDepth 100000 in
theorem pointed_zero (s : ByteArray) (h : 0 < s.size) (hs : s.size ≤ 100000) (w : World) :
    Calls Tryz.prog 28 #[.string s, .int .i64 0] w fun rr w' => rr = .returned (.string s) ∧ w' = w := by
  have t2 : ¬ s.size = 0 := by omega
  go_enter Tryz.func28, Tryz.ntmps28
  go_wp2_with (first | (go_at_call 27; fail))
  go_ret
  exact ⟨rfl, rfl⟩
set_option maxRecDepth 100000 in
set_option maxHeartbeats 1000000 in
theorem pointed_short (s : ByteArray) (n c : Nat) (hn : 0 < n) (hk : s.size ≤ n) (hc : (n : Int) + 1 - (s.size : Int) = (c : Int)) (hs : n ≤ 100000) (w : World) :
    Calls Tryz.prog 28 #[.string s, .int .i64 (n : Int)] w fun rr w' => rr = .returned (.string ((txt (List.replicate c 48) ++ s).extract 0 1 ++ ⟨#[46]⟩ ++ (txt (List.replicate c 48) ++ s).extract 1 (txt (List.replicate c 48) ++ s).size)) ∧ Below w.heap.size w w' := by
  have cr := Tryz.strings_Repeat ⟨#[48]⟩ c w (by omega) (by simp [ByteArray.size]; omega)
  rw [repeat_zero] at cr
  have hsz : (txt (List.replicate c 48) ++ s).size = n + 1 := by
    rw [ByteArray.size_append, txt_size, List.length_replicate]
    omega
  have hsum : ¬ 9223372036854775807 < (txt (List.replicate c 48)).size + s.size := by
    rw [ByteArray.size_append] at hsz
    omega
  generalize txt (List.replicate c 48) = z at *
  have t2 : (s.size : Int) ≤ (n : Int) := by omega
  have t1 : ((n : Int) == 0) = false := by rw [beq_eq_false_iff_ne]; omega
  have t4 : ((z ++ s).size : Int) = (n : Int) + 1 := by omega
  have t5 : ((n : Int) + 1) - (n : Int) = 1 := by omega
  go_enter Tryz.func28, Tryz.ntmps28
  go_wp2_with (first | (go_at_call 27; refine cr.mono ?_; rintro ee w1 ⟨rfl, hb⟩))
  go_quiet (fail)
  go_wp2
  go_ret
  exact ⟨by rw [hsz]; rfl, below_drewN hb⟩
/-- **pointed.** -/
theorem pointed_any (D : List Nat) (n : Nat) (h1 : 0 < D.length) (h2 : D.length ≤ 1000) (hn : n ≤ 1000) (w : World) :
    Calls Tryz.prog 28 #[.string (txt D), .int .i64 (n : Int)] w fun rr w' => rr = .returned (.string (txt (ptd D n))) ∧ Below w.heap.size w w' := by
  have hsz := txt_size D
  rcases Nat.eq_zero_or_pos n with h0 | h0
  · subst h0
    refine (pointed_zero (txt D) (by omega) (by omega) w).mono ?_
    rintro e w' ⟨rfl, rfl⟩
    have e1 : ptd D 0 = D := by
      unfold ptd padD
      rw [if_pos rfl, if_neg (by omega)]
    rw [e1]
    exact ⟨rfl, Below.refl _ _⟩
  · rcases Nat.lt_or_ge n D.length with hlt | hge
    · refine (pointed_long (txt D) n (D.length - n) h0 (by omega) (by omega) (by omega) w).mono ?_
      rintro e w' ⟨rfl, hb⟩
      refine ⟨?_, hb⟩
      have e1 : ptd D n = D.take (D.length - n) ++ 46 :: D.drop (D.length - n) := by
        unfold ptd padD
        rw [if_neg (by omega), if_neg (by omega)]
      have e2 : (D.drop (D.length - n)).take (D.length - (D.length - n)) = D.drop (D.length - n) := List.take_of_length_le (by rw [List.length_drop]; omega)
      rw [e1, txt_extract, txt_extract, hsz, txt_dot, txt_append, txt_append, e2]
      simp
    · obtain ⟨c, hc⟩ : ∃ c, c = n + 1 - D.length := ⟨_, rfl⟩
      refine (pointed_short (txt D) n c h0 (by omega) (by omega) (by omega) w).mono ?_
      rintro e w' ⟨rfl, hb⟩
      refine ⟨?_, hb⟩
      have e0 : (List.replicate c 48 ++ D).length = n + 1 := by
        rw [List.length_append, List.length_replicate]
        omega
      have e1 : ptd D n = (List.replicate c 48 ++ D).take 1 ++ 46 :: (List.replicate c 48 ++ D).drop 1 := by
        unfold ptd padD
        rw [if_neg (by omega), if_pos hge, ← hc, e0, show n + 1 - n = 1 by omega]
      rw [e1, txt_append, txt_size, e0, txt_extract, txt_extract, txt_dot, txt_append, txt_append]
      have e2 : ((List.replicate c 48 ++ D).drop 1).take (n + 1 - 1) = (List.replicate c 48 ++ D).drop 1 := List.take_of_length_le (by rw [List.length_drop, e0]; omega)
      rw [e2]
      simp
end Go.Proofs.YtellndmbllmjgaaGreatDoor
/- The walk of powered. -/
set_option linter.unusedVariables false
namespace Go.Proofs.YtellndmbllmjgaaGreatDoor
open Go.RowKit Go.Shelf Go.Sort Fs Fl

theorem txt_decN (a : Nat) : (⟨(Lib.decDigits a).toArray⟩ : ByteArray) = txt (decN a) := by
  unfold txt decN
  rw [List.map_map]
  congr 2
  have : (UInt8.ofNat ∘ UInt8.toNat) = id := by
    funext x
    simp
  rw [this, List.map_id]
theorem ptd_len (D : List Nat) (n : Nat) : (ptd D n).length ≤ D.length + n + 2 := by
  have hp : (padD D n).length ≤ D.length + n + 1 := by
    unfold padD
    split
    · rw [List.length_append, List.length_replicate]; omega
    · omega
  unfold ptd
  split
  · omega
  · rw [List.length_append, List.length_cons, List.length_take, List.length_drop]
    omega
/-- d.ddde+x -/
def pwd (D : List Nat) (x : Int) : List Nat := ptd D (D.length - 1) ++ [101] ++ [if x < 0 then 45 else 43] ++ decN x.natAbs
theorem txt_e : (⟨#[101]⟩ : ByteArray) = txt [101] := rfl
theorem txt_p : (⟨#[43]⟩ : ByteArray) = txt [43] := rfl
theorem txt_m : (⟨#[45]⟩ : ByteArray) = txt [45] := rfl
set_option maxRecDepth 100000 in
set_option maxHeartbeats 1000000 in
theorem powered_pos (D : List Nat) (a : Nat) (h1 : 0 < D.length) (h2 : D.length ≤ 1000) (ha : a ≤ 1000) (w : World) (hlaid : Laid w) :
    Calls Tryz.prog 29 #[.agg #[.string (txt D), .int .i64 ((a : Int) + 1)]] w fun rr w' => rr = .returned (.string (txt (pwd D (a : Int)))) ∧ Below w.heap.size w w' := by
  have hsz := txt_size D
  obtain ⟨K, hK⟩ : ∃ K, D.length = K + 1 := ⟨D.length - 1, by omega⟩
  have ek : wrap64 (((txt D).size : Int) - 1) = (K : Int) := by
    have : ((txt D).size : Int) - 1 = (K : Int) := by omega
    rw [this]
    exact wrap64_small K (by omega)
  have hlen := ptd_len D K
  have hdl := decN_length a
  have hdl2 := nDigits_le a 4 (by omega) (by omega)
  have fin : ∀ p q, p = txt (ptd D K) → q = txt (decN a) → p ++ ⟨#[101]⟩ ++ ⟨#[43]⟩ ++ q = txt (pwd D (a : Int)) := by
    rintro p q rfl rfl
    rw [txt_e, txt_p, txt_append, txt_append, txt_append]
    unfold pwd
    rw [if_neg (by omega), hK, Nat.add_sub_cancel, Int.natAbs_natCast]
  obtain ⟨W0, hW0⟩ : ∃ W0, W0 = w.alloc (.cells #[.string (txt D), .int .i64 ((a : Int) + 1)] 46) := ⟨_, rfl⟩
  have hbz : Below w.heap.size w W0 := by rw [hW0]; exact (Below.refl _ _).alloc (Nat.le_refl _) _
  have cp := pointed_any D K h1 h2 (by omega) W0
  have hp := txt_size (ptd D K)
  have hq := txt_size (decN a)
  have HL : Hid (Laid w) := hlaid
  have HF : Hid (∀ p q, p = txt (ptd D K) → q = txt (decN a) → p ++ ⟨#[101]⟩ ++ ⟨#[43]⟩ ++ q = txt (pwd D (a : Int))) := fin
  clear hlaid fin hsz
  go_enter Tryz.func29, Tryz.ntmps29
  go_wp2_with (first | (go_at_call 28; fail) | (go_at_call 82; fail))
  rw [← hW0]
  clear hW0
  refine cp.mono ?_
  rintro ee w1 ⟨rfl, hb⟩
  have hb1 : Below w.heap.size w w1 := hbz.trans (hb.mono hbz.size)
  have ci := Tryz.strconv_Itoa (a : Int) (by omega) (by omega) w1 (HL.out.below hb1).p10
  rw [Lib.itoa_nonneg, txt_decN] at ci
  obtain ⟨p, hpe⟩ : ∃ p, p = txt (ptd D K) := ⟨_, rfl⟩
  obtain ⟨q, hqe⟩ : ∃ q, q = txt (decN a) := ⟨_, rfl⟩
  rw [← hpe] at hp ⊢
  rw [← hqe] at hq ci
  have HPE : Hid (p = txt (ptd D K)) := hpe
  have HQE : Hid (q = txt (decN a)) := hqe
  have HB1 : Hid (Below w.heap.size w w1) := hb1
  have hpl : p.size ≤ 3000 := by omega
  have hql : q.size ≤ 100 := by omega
  clear cp hpe hqe hb1 hb hbz hlen hdl hp hq hdl2
  go_wp2_with (first | (go_at_call 82; refine ci.mono ?_; rintro ee w2 ⟨rfl, k, os, rfl⟩))
  go_ret
  refine ⟨?_, HB1.out.trans (Lib.below_grow _ _ HB1.out.size _ _)⟩
  rw [← HF.out p q HPE.out HQE.out]
  rfl
set_option maxRecDepth 100000 in
set_option maxHeartbeats 1000000 in
theorem powered_neg (D : List Nat) (a : Nat) (h1 : 0 < D.length) (h2 : D.length ≤ 1000) (h0 : 0 < a) (ha : a ≤ 1000) (w : World) (hlaid : Laid w) :
    Calls Tryz.prog 29 #[.agg #[.string (txt D), .int .i64 (-(a : Int) + 1)]] w fun rr w' => rr = .returned (.string (txt (pwd D (-(a : Int))))) ∧ Below w.heap.size w w' := by
  have hsz := txt_size D
  obtain ⟨K, hK⟩ : ∃ K, D.length = K + 1 := ⟨D.length - 1, by omega⟩
  have ek : wrap64 (((txt D).size : Int) - 1) = (K : Int) := by
    have : ((txt D).size : Int) - 1 = (K : Int) := by omega
    rw [this]
    exact wrap64_small K (by omega)
  have hlen := ptd_len D K
  have hdl := decN_length a
  have hdl2 := nDigits_le a 4 (by omega) (by omega)
  have fin : ∀ p q, p = txt (ptd D K) → q = txt (decN a) → p ++ ⟨#[101]⟩ ++ ⟨#[45]⟩ ++ q = txt (pwd D (-(a : Int))) := by
    rintro p q rfl rfl
    rw [txt_e, txt_m, txt_append, txt_append, txt_append]
    unfold pwd
    rw [if_pos (by omega), hK, Nat.add_sub_cancel, Int.natAbs_neg, Int.natAbs_natCast]
  obtain ⟨W0, hW0⟩ : ∃ W0, W0 = w.alloc (.cells #[.string (txt D), .int .i64 (-(a : Int) + 1)] 46) := ⟨_, rfl⟩
  have hbz : Below w.heap.size w W0 := by rw [hW0]; exact (Below.refl _ _).alloc (Nat.le_refl _) _
  have cp := pointed_any D K h1 h2 (by omega) W0
  have hp := txt_size (ptd D K)
  have hq := txt_size (decN a)
  have HL : Hid (Laid w) := hlaid
  have HF : Hid (∀ p q, p = txt (ptd D K) → q = txt (decN a) → p ++ ⟨#[101]⟩ ++ ⟨#[45]⟩ ++ q = txt (pwd D (-(a : Int)))) := fin
  clear hlaid fin hsz
  have hxe : -(a : Int) + 1 - 1 = -(a : Int) := by omega
  have hnn : - -(a : Int) = (a : Int) := by omega
  have hng : -(a : Int) < 0 := by omega
  go_enter Tryz.func29, Tryz.ntmps29
  go_wp2_with (first | (go_at_call 28; fail) | (go_at_call 82; fail))
  rw [← hW0]
  clear hW0
  refine cp.mono ?_
  rintro ee w1 ⟨rfl, hb⟩
  have hb1 : Below w.heap.size w w1 := hbz.trans (hb.mono hbz.size)
  have ci := Tryz.strconv_Itoa (a : Int) (by omega) (by omega) w1 (HL.out.below hb1).p10
  rw [Lib.itoa_nonneg, txt_decN] at ci
  obtain ⟨p, hpe⟩ : ∃ p, p = txt (ptd D K) := ⟨_, rfl⟩
  obtain ⟨q, hqe⟩ : ∃ q, q = txt (decN a) := ⟨_, rfl⟩
  rw [← hpe] at hp ⊢
  rw [← hqe] at hq ci
  have HPE : Hid (p = txt (ptd D K)) := hpe
  have HQE : Hid (q = txt (decN a)) := hqe
  have HB1 : Hid (Below w.heap.size w w1) := hb1
  have hpl : p.size ≤ 3000 := by omega
  have hql : q.size ≤ 100 := by omega
  clear cp hpe hqe hb1 hb hbz hlen hdl hp hq hdl2
  go_wp2_with (first | (go_at_call 82; refine ci.mono ?_; rintro ee w2 ⟨rfl, k, os, rfl⟩))
  go_ret
  refine ⟨?_, HB1.out.trans (Lib.below_grow _ _ HB1.out.size _ _)⟩
  rw [← HF.out p q HPE.out HQE.out]
  rfl
/-- **powered.** -/
theorem powered_any (D : List Nat) (x : Int) (h1 : 0 < D.length) (h2 : D.length ≤ 1000) (hx : -1000 ≤ x) (hx2 : x ≤ 1000) (w : World) (hlaid : Laid w) :
    Calls Tryz.prog 29 #[.agg #[.string (txt D), .int .i64 (x + 1)]] w fun rr w' => rr = .returned (.string (txt (pwd D x))) ∧ Below w.heap.size w w' := by
  rcases Int.lt_or_le x 0 with h | h
  · obtain ⟨a, rfl⟩ : ∃ a : Nat, x = -(a : Int) := ⟨x.natAbs, by omega⟩
    exact powered_neg D a h1 h2 (by omega) (by omega) w hlaid
  · obtain ⟨a, rfl⟩ : ∃ a : Nat, x = (a : Int) := ⟨x.toNat, by omega⟩
    exact powered_pos D a h1 h2 (by omega) w hlaid
end Go.Proofs.YtellndmbllmjgaaGreatDoor
/- Digits. -/
set_option linter.unusedVariables false
namespace Go.Proofs.YtellndmbllmjgaaGreatDoor
open Go.RowKit Go.Shelf Go.Sort Fs Fl

theorem NatIs.form {w : World} {v : Value} {x : Nat} (h : NatIs w v x) (bx : x < pw 1000) : ∃ sa sl sc, v = .slice sa sl sc ∧ (sl = 0 ↔ x = 0) ∧ sl ≤ 1000 := by
  obtain ⟨l, h1, h2, h3⟩ := h
  obtain ⟨a, c, e⟩ := h1.slice
  refine ⟨a, l.length, c, e, ?_, len_le h2 (by rw [h3]; exact bx)⟩
  constructor
  · intro h0
    rw [← h3, List.eq_nil_of_length_eq_zero h0]
    rfl
  · intro h0
    rcases Nat.eq_zero_or_pos l.length with h4 | h4
    · exact h4
    · have := val_ge l h2 h4
      rw [h3, h0] at this
      have := Nat.pow_pos (n := l.length - 1) (show 0 < 65536 by omega)
      omega
theorem owns_below {w w' : World} {base e s n : Nat} {v : Value} {xs : List Value} (h : w.ownsRow base e s v n xs) (hb : Below w.heap.size w w') : w'.ownsRow base e s v n xs := by
  refine ⟨h.1, ?_⟩
  rcases h.2 with ⟨h1, h2⟩ | ⟨g, cap, cur, h1, h2, hg, h4⟩
  · exact Or.inl ⟨h1, h2⟩
  · exact Or.inr ⟨g, cap, cur, h1, h2, by rw [hb.block g (lt_of_get hg)]; exact hg, h4⟩
theorem owns_pos {W : World} {base : Nat} {e : TypeId} {size : Nat} {v : Value} {k : Nat} {xs : List Value} (hk : 0 < k) (h : W.ownsRow base e size v k xs) : ∃ g cap, v = .slice (some ⟨g, 0, none⟩) k cap := by
  rcases h.2 with ⟨_, h0⟩ | ⟨g, cap, _, rfl, _⟩
  · omega
  · exact ⟨g, cap, rfl⟩
theorem NatIs.keep {w w' : World} {v : Value} {x : Nat} (h : NatIs w v x) (hT : T108 w v) (hk : Kept5 w w') : NatIs w' v x := by
  obtain ⟨l, h1, h2, h3⟩ := h
  obtain ⟨b, k, c, C, fr, rfl, hb⟩ := hT
  refine ⟨l, ?_, h2, h3⟩
  rcases h1 with h1 | ⟨b', off, cap, e, hc, hb', hcell⟩
  · exact Or.inl h1
  · cases e
    have h4 := hk b C 108 fr hb (by decide)
    refine Or.inr ⟨_, _, _, rfl, hc, lt_of_get h4, fun j hj => ?_⟩
    rw [← hcell j hj]
    exact World.cell?_of_block (w := w) (w' := w') (by rw [h4, hb])
def slLen : Value → Nat
  | .slice _ n _ => n
  | _ => 0
theorem owns_len {W : World} {base : Nat} {e : TypeId} {size : Nat} {v : Value} {k : Nat} {xs : List Value} (h : W.ownsRow base e size v k xs) : slLen v = k := by
  rcases h.2 with ⟨rfl, h0⟩ | ⟨g, cap, _, rfl, _⟩
  · rw [h0]; rfl
  · rfl
/-- What holds ahead of each round of Digits. -/
def DgR (w : World) (x : Nat) (va vb : Value) (wr : World) : Prop :=
  ∃ (t : Nat) (bk : List Nat), NatIs wr va (x / 10 ^ t) ∧ wr.ownsRow w.heap.size 5 1 vb t (bk.map bv) ∧ bk.length = t ∧ (∀ i, i < t → bk[i]? = some (48 + x / 10 ^ i % 10)) ∧ t ≤ 25 ∧ (0 < t → 10 ^ (t - 1) ≤ x) ∧ Below w.heap.size w wr
theorem lt_digits : ∀ d, d < 10 ^ Lib.nDigits d := fun d => by
    induction d using Nat.strongRecOn with
    | ind d ih =>
      by_cases h0 : d < 10
      · rw [Lib.nDigits_small h0]; simpa using h0
      · rw [Lib.nDigits_big h0, Nat.pow_add]
        have := ih (d / 10) (by omega)
        simp only [Nat.pow_one]
        omega
theorem len_digits {x t : Nat} (ht : 0 < t) (h1 : 10 ^ (t - 1) ≤ x) (h2 : x / 10 ^ t = 0) : Lib.nDigits x = t := by
  have h3 : x < 10 ^ t := by
    rcases Nat.lt_or_ge x (10 ^ t) with h | h
    · exact h
    · have := Nat.div_pos h (Nat.pow_pos (by omega)); omega
  have h4 := nDigits_le x t h3 ht
  have hx0 : 0 < x := Nat.lt_of_lt_of_le (Nat.pow_pos (by omega)) h1
  rcases Nat.lt_or_ge (Lib.nDigits x) t with h5 | h5
  · exfalso
    have h6 : x < 10 ^ Lib.nDigits x := lt_digits x
    have h7 : 10 ^ Lib.nDigits x ≤ 10 ^ (t - 1) := Nat.pow_le_pow_right (by omega) (by omega)
    omega
  · omega
set_option maxRecDepth 100000 in
set_option maxHeartbeats 1000000 in
theorem digits_pos (u : Value) (x : Nat) (w : World) (hu : NatIs w u x) (hx : 0 < x) (bx : x < pw 5) :
    Calls Tryz.prog 33 #[u, .int .i64 10] w fun e w' => e = .returned (.string (txt (decN x))) ∧ Below w.heap.size w w' := by
  obtain ⟨sa, sl, sc, rfl, hs, hs2⟩ := hu.form (pw_lt bx (by omega))
  have t0 : ((sl : Int) == 0) = false := by rw [beq_eq_false_iff_ne]; omega
  have HX : Hid (x < pw 5) := bx
  clear bx hs
  go_enter Tryz.func33, Tryz.ntmps33
  go_wp2
  go_loopw [0, 5] (fun va vb wr => DgR w x va vb wr) (fun _ vb _ => 30 - slLen vb)
  case atStart => exact ⟨0, [], by simpa using hu, World.ownsRow_nil _ _ _ _, rfl, by intro i hi; omega, by omega, by omega, Below.refl _ _⟩
  case round =>
    obtain ⟨t, bk, ha, hown, hbl, hbd, ht, hlow, hbw⟩ := hrel
    obtain ⟨sa2, sl2, sc2, rfl, hz, hz2⟩ := ha.form (pw_lt (Nat.lt_of_le_of_lt (Nat.div_le_self _ _) HX.out) (by omega))
    rcases Nat.eq_zero_or_pos (x / 10 ^ t) with h0 | h0
    · have hsl : sl2 = 0 := hz.2 h0
      subst hsl
      have ht0 : 0 < t := by
        rcases Nat.eq_zero_or_pos t with h | h
        · rw [h, Nat.pow_zero, Nat.div_one] at h0; omega
        · exact h
      have hnd := len_digits ht0 (hlow ht0) h0
      obtain ⟨g, cap, rfl⟩ := owns_pos ht0 hown
      have hcell : ∀ m, m < t → wr.cell? ⟨g, t - 1 - m, none⟩ = some (.int .u8 (((decN x)[m]?.getD 0 : Nat) : Int)) := by
        intro m hm
        have hc := hown.cells (g := g) rfl
        have h1 := hc (t - 1 - m) (bv (48 + x / 10 ^ (t - 1 - m) % 10)) (by rw [List.getElem?_map, hbd (t - 1 - m) (by omega)]; rfl)
        have e : (⟨g, 0, none⟩ : Addr).add (t - 1 - m) = ⟨g, t - 1 - m, none⟩ := by unfold Addr.add; split <;> simp_all
        rw [e] at h1
        rw [decN_at x m (by omega), hnd]
        exact h1
      have hgw : g < wr.heap.size := by
        rcases hown.2 with ⟨h1, _⟩ | ⟨g', cap', cur, h1, _, hg, _⟩
        · cases h1
        · cases h1; exact lt_of_get hg
      have HC := (show Hid _ from hcell)
      have hlen := decN_length x
      rw [hnd] at hlen
      have HLEN : Hid ((decN x).length = t) := hlen
      clear hcell hown hbl hbd hlow h0 hz ha hlen hnd
      rename World => wB
      go_wp2
      go_loopw [8, 9] (fun vo vi w2 => ∃ m : Nat, m ≤ t ∧ vi = .int .i64 ((t : Int) - m - 1) ∧ w2.ownsRow wB.heap.size 5 1 vo m (((decN x).take m).map bv) ∧ Below wB.heap.size wB w2) (fun _ vi _ => (RowKit.intOf vi + 1).toNat)
      case atStart => exact ⟨0, Nat.zero_le _, by go_num, World.ownsRow_nil _ _ _ _, Below.refl _ _⟩
      case round =>
        obtain ⟨m, hm, rfl, hown2, hbw2⟩ := hrel
        rcases Nat.lt_or_ge m t with hlt | hge
        · obtain ⟨i, hi⟩ : ∃ i : Nat, (t : Int) - m - 1 = (i : Int) := ⟨t - 1 - m, by omega⟩
          have hi2 : i = t - 1 - m := by omega
          have hcl := (hbw2.cell (p := ⟨g, t - 1 - m, none⟩) hgw).trans (HC.out m hlt)
          rw [← hi2] at hcl
          have hk1 : (i : Int) < (t : Int) := by omega
          obtain ⟨z, hz⟩ : ∃ z, z = (decN x)[m]?.getD 0 := ⟨_, rfl⟩
          rw [← hz] at hcl
          have HZ : Hid (z = (decN x)[m]?.getD 0) := hz
          have HI2 : Hid (i = t - 1 - m) := hi2
          rw [hi]
          clear hz hi hi2
          go_wp2_with (first | (at_builtin; refine app1 rfl _ _ rfl wB.heap.size _ _ _ wB _ _ hown2 rfl rfl (by omega) (Nat.le_refl _) hbw2 ?_; intro v' w3 hown' hbw' hkk))
          have hi2 := HI2.out
          refine ⟨⟨m + 1, by omega, by congr 1; omega, ?_, hbw'⟩, ?_⟩
          · have hlm : m < (decN x).length := by rw [HLEN.out]; exact hlt
            rw [List.take_succ_eq_append_getElem hlm, List.map_append]
            have hz := HZ.out
            rw [List.getElem?_eq_getElem hlm] at hz
            simp only [Option.getD_some] at hz
            rw [← hz]
            exact hown'
          · simp only [RowKit.intOf]
            omega
        · have hmt : m = t := by omega
          subst hmt
          have hlen := HLEN.out
          rw [List.take_of_length_le (by omega)] at hown2
          obtain ⟨g2, cap2, rfl⟩ := owns_pos ht0 hown2
          have hcv := conv_row (bs := decN x) (W := wr) (base := wB.heap.size) (g := g2) (cap := cap2) (fun b hb => by have := decN_ge x b hb; omega) (by rw [hlen]; exact hown2)
          rw [hlen] at hcv
          have hk1 : ¬ (0 : Int) ≤ (m : Int) - m - 1 := by omega
          clear hown2
          go_wp2
          go_ret
          exact ⟨rfl, hbw.trans (hbw2.mono hbw.size)⟩
    · have hsl : 0 < sl2 := by rcases Nat.eq_zero_or_pos sl2 with h | h; (· have := hz.1 h; omega); (· exact h)
      have k1 : (0 : Int) < (sl2 : Int) := by omega
      have cs := small_any (.slice sa2 sl2 sc2) (x / 10 ^ t) 10 (by omega) (by omega) wr ha h0 (pw_lt (Nat.lt_of_le_of_lt (Nat.div_le_self _ _) HX.out) (by omega))
      have HB : Hid (bk.length = t ∧ (∀ i, i < t → bk[i]? = some (48 + x / 10 ^ i % 10)) ∧ (0 < t → 10 ^ (t - 1) ≤ x) ∧ 0 < x / 10 ^ t) := ⟨hbl, hbd, hlow, h0⟩
      clear hbl hbd hlow h0 hz ha
      obtain ⟨d, hd⟩ : ∃ d, d = x / 10 ^ t % 10 := ⟨_, rfl⟩
      have hd9 : d < 10 := by omega
      rw [← hd] at cs
      have HD : Hid (d = x / 10 ^ t % 10) := hd
      clear hd
      have cs' : Calls Tryz.prog 85 #[.slice sa2 sl2 sc2, .int .u32 10] wr fun e w' => ∃ v, e = .returned (.tuple #[v, .int .u32 (d : Int)]) ∧ NatIs w' v (x / 10 ^ t / 10) ∧ T108 w' v ∧ Below wr.heap.size wr w' := cs
      clear cs
      go_wp2_with (first | (go_at_call 85; refine cs'.mono ?_; rintro e w1 ⟨x1, rfl, hx1, hT1, hw1⟩; clear cs'; have hown1 := owns_below hown hw1; have hbw1 : Below w.heap.size w w1 := hbw.trans (hw1.mono hbw.size)) | (at_builtin; refine app1 rfl _ _ rfl w.heap.size _ _ _ w _ _ hown1 rfl rfl (by omega) (Nat.le_refl _) hbw1 ?_; intro v' w2 hown' hbw' hkk; have hsz2 := hbw'.size))
      have hown2 : w2.ownsRow w.heap.size 5 1 v' (t + 1) ((bk ++ [48 + d]).map bv) := by
        rw [List.map_append]
        have h10 : d = 0 ∨ d = 1 ∨ d = 2 ∨ d = 3 ∨ d = 4 ∨ d = 5 ∨ d = 6 ∨ d = 7 ∨ d = 8 ∨ d = 9 := by omega
        clear HD hown hown1 hx1
        rcases h10 with rfl | rfl | rfl | rfl | rfl | rfl | rfl | rfl | rfl | rfl <;> exact hown'
      obtain ⟨b1, b2, b3, b4⟩ := HB.out
      have hd := HD.out
      have hle : 10 ^ t ≤ x := by
        rcases Nat.lt_or_ge x (10 ^ t) with h | h
        · rw [Nat.div_eq_of_lt h] at b4; omega
        · exact h
      have ht24 : t < 25 := by
        rcases Nat.lt_or_ge t 25 with h | h
        · exact h
        · exfalso
          have h1 : 10 ^ 25 ≤ 10 ^ t := Nat.pow_le_pow_right (by omega) h
          have h2 : pw 5 < 10 ^ 25 := by decide
          have h3 := HX.out
          omega
      have hl1 := owns_len hown2
      have hl0 := owns_len hown
      refine ⟨⟨t + 1, bk ++ [48 + d], ?_, hown2, by simp [b1], ?_, by omega, fun _ => by rw [Nat.add_sub_cancel]; exact hle, hbw'⟩, by omega⟩
      · rw [Nat.pow_succ, ← Nat.div_div_eq_div_mul]
        exact hx1.keep hT1 hkk
      · intro i hi
        rcases Nat.lt_or_ge i t with h | h
        · rw [List.getElem?_append_left (by omega)]
          exact b2 i h
        · have : i = t := by omega
          subst this
          rw [List.getElem?_append_right (by omega), b1, Nat.sub_self, hd]
          rfl
theorem decN_zero : decN 0 = [48] := by
  apply List.ext_getElem?
  intro i
  have h1 : Lib.nDigits 0 = 1 := Lib.nDigits_small (by omega)
  rcases Nat.eq_zero_or_pos i with h | h
  · subst h
    rw [decN_at 0 0 (by omega), h1]
    rfl
  · rw [List.getElem?_eq_none (by rw [decN_length, h1]; omega), List.getElem?_eq_none (by simp; omega)]
/-- **Digits, to the base ten.** -/
theorem digits_any (u : Value) (x : Nat) (w : World) (hu : NatIs w u x) (bx : x < pw 5) :
    Calls Tryz.prog 33 #[u, .int .i64 10] w fun e w' => e = .returned (.string (txt (decN x))) ∧ Below w.heap.size w w' := by
  rcases Nat.eq_zero_or_pos x with h0 | h0
  · subst h0
    obtain ⟨sa, sl, sc, rfl, hs, hs2⟩ := hu.form (pw_lt bx (by omega))
    have hsl : sl = 0 := hs.2 rfl
    subst hsl
    clear hu bx hs hs2
    go_enter Tryz.func33, Tryz.ntmps33
    go_wp2
    go_ret
    refine ⟨?_, Below.refl _ _⟩
    rw [decN_zero]
    rfl
  · exact digits_pos u x w hu h0 bx
end Go.Proofs.YtellndmbllmjgaaGreatDoor
/- The walk of num.Text. -/
set_option linter.unusedVariables false
namespace Go.Proofs.YtellndmbllmjgaaGreatDoor
open Go.RowKit Go.Shelf Go.Sort Fs Fl

/-- How digits and a point are written. -/
def textD (D : List Nat) (n : Int) : List Nat :=
  if (D.length : Int) ≤ n ∧ n ≤ 21 then D ++ List.replicate (n - (D.length : Int)).toNat 48
  else if -6 < n ∧ n ≤ 21 then ptd D ((D.length : Int) - n).toNat
  else pwd D (n - 1)
theorem isInf_one (x : Nat) (w : World) : Calls Tryz.prog 25 #[.float .f64 x, .int .i64 1] w fun e w' => e = .returned (.bool (FloatKind.f64.format.order x 9218868437227405311 == some .gt)) ∧ w' = w := by
  go_enter Tryz.func25, Tryz.ntmps25
  go_wp2
  go_ret
  exact ⟨rfl, rfl⟩
set_option maxRecDepth 100000 in
set_option maxHeartbeats 2000000 in
theorem text_pos (r : Nat) (h0 : 0 < r) (h1 : r < 9218868437227405312) (w : World) (hlaid : Laid w) (o1 : (FloatKind.f64.format.order r r != some .eq) = false) (o2 : (FloatKind.f64.format.order r 0 == some .lt) = false) (o3 : (FloatKind.f64.format.order r 0 == some .eq) = false) (o4 : (FloatKind.f64.format.order r 9218868437227405311 == some .gt) = false) :
    Calls Tryz.prog 8 #[.float .f64 r] w fun rr w' => ∃ d0 J, Fs.Told (magR r) (expR r) d0 J ∧ 0 < d0 ∧ d0 < 1152921504606846976 ∧ J < 1000 ∧ rr = .returned (.string (txt (textD (decN d0) ((Lib.nDigits d0 : Int) + (J : Int) - 400)))) ∧ Below w.heap.size w w' := by
  have ci := isInf_one r
  rw [o4] at ci
  have cs := shortest_any r h0 h1 w hlaid
  have HL : Hid (Laid w) := hlaid
  clear hlaid o4 h0 h1
  go_enter Tryz.func8, Tryz.ntmps8
  go_wp2_with (first | (go_at_call 25; refine (ci _).mono ?_; rintro e wq ⟨rfl, hwq⟩; rw [hwq]; clear hwq wq))
  refine cs.mono ?_
  rintro ee w1 ⟨d0, J, hT, hd0, hd1, hJ, rfl, hb⟩
  have hnl : Lib.nDigits d0 ≤ 19 := nDigits_le d0 19 (by omega) (by omega)
  have hnp := Lib.nDigits_pos d0
  have hlen := decN_length d0
  have hsz := txt_size (decN d0)
  have hlaid1 := HL.out.below hb
  obtain ⟨n, hn⟩ : ∃ n : Int, n = (Lib.nDigits d0 : Int) + (J : Int) - 400 := ⟨_, rfl⟩
  obtain ⟨k, hk⟩ : ∃ k, k = Lib.nDigits d0 := ⟨_, rfl⟩
  have hna : -400 ≤ n := by omega
  have hnb : n ≤ 1000 := by omega
  have HT : Hid (Fs.Told (magR r) (expR r) d0 J ∧ 0 < d0 ∧ d0 < 1152921504606846976 ∧ J < 1000) := ⟨hT, hd0, hd1, hJ⟩
  have HN : Hid (n = (Lib.nDigits d0 : Int) + (J : Int) - 400) := hn
  rw [← hn]
  rw [← hk] at hnl hnp hlen
  rw [hlen] at hsz
  have post : ∀ t w', t = txt (textD (decN d0) n) → Below w.heap.size w w' → ∃ d0 J, Fs.Told (magR r) (expR r) d0 J ∧ 0 < d0 ∧ d0 < 1152921504606846976 ∧ J < 1000 ∧ Ending.returned (.string t) = .returned (.string (txt (textD (decN d0) ((Lib.nDigits d0 : Int) + (J : Int) - 400)))) ∧ Below w.heap.size w w' := by
    rintro t w' rfl hb'
    obtain ⟨a1, a2, a3, a4⟩ := HT.out
    exact ⟨d0, J, a1, a2, a3, a4, by rw [← HN.out], hb'⟩
  have POST := (show Hid _ from post)
  have HB : Hid (Below w.heap.size w w1) := hb
  clear hT hd0 hd1 hJ hn hk post cs hb
  by_cases c1 : (k : Int) ≤ n ∧ n ≤ 21
  · obtain ⟨c, hc⟩ : ∃ c : Nat, n - (k : Int) = (c : Int) := ⟨(n - (k : Int)).toNat, by omega⟩
    have cr := Tryz.strings_Repeat ⟨#[48]⟩ c (w1.alloc (.cells #[.string (txt (decN d0)), .int .i64 n] 46)).drew (by omega) (by simp [ByteArray.size]; omega)
    have keep : ∀ w2, Below (w1.alloc (.cells #[.string (txt (decN d0)), .int .i64 n] 46)).drew.heap.size (w1.alloc (.cells #[.string (txt (decN d0)), .int .i64 n] 46)).drew w2 → w2.cell? ⟨w1.heap.size, 0, none⟩ = some (.string (txt (decN d0))) ∧ w2.cell? ⟨w1.heap.size, 1, none⟩ = some (.int .i64 n) ∧ Below w.heap.size w w2 := by
      intro w2 hb
      have hs : (w1.alloc (.cells #[.string (txt (decN d0)), .int .i64 n] 46)).drew.heap.size = w1.heap.size + 1 := by simp
      refine ⟨?_, ?_, ?_⟩
      · rw [hb.cell (p := ⟨w1.heap.size, 0, none⟩) (by rw [hs]; exact Nat.lt_succ_self _)]; simp
      · rw [hb.cell (p := ⟨w1.heap.size, 1, none⟩) (by rw [hs]; exact Nat.lt_succ_self _)]; simp
      · have h1 : Below w.heap.size w (w1.alloc (.cells #[.string (txt (decN d0)), .int .i64 n] 46)).drew := (HB.out.alloc HB.out.size _).drew
        exact h1.trans (hb.mono h1.size)
    have hcw : IntKind.i64.wrap (c : Int) = (c : Int) := by rw [IntKind.wrap_i64]; omega
    have KEEP := (show Hid _ from keep)
    clear keep
    rw [repeat_zero] at cr
    have et : txt (decN d0) ++ txt (List.replicate c 48) = txt (textD (decN d0) n) := by
      unfold textD
      rw [hlen, if_pos c1, txt_append, hc, Int.toNat_natCast]
    have hz : (txt (List.replicate c 48)).size ≤ 100 := by rw [txt_size, List.length_replicate]; omega
    have HE : Hid (txt (decN d0) ++ txt (List.replicate c 48) = txt (textD (decN d0) n)) := et
    clear et hlen
    obtain ⟨c1a, c1b⟩ := c1
    go_wp2_with (first | (go_at_call 27; fail))
    go_region_with (first | (go_at_call 27; go_fit cr; rintro ee w2 ⟨rfl, hb2⟩; obtain ⟨l0, l1, hb3⟩ := KEEP.out w2 hb2))
    all_goals
      go_wp2
      go_ret
      exact POST.out _ _ HE.out hb3
  · by_cases c2 : -6 < n ∧ n ≤ 21
    · obtain ⟨m, hm⟩ : ∃ m : Nat, (k : Int) - n = (m : Int) := ⟨((k : Int) - n).toNat, by omega⟩
      have hW : Below w.heap.size w (w1.alloc (.cells #[.string (txt (decN d0)), .int .i64 n] 46)) := HB.out.alloc HB.out.size _
      have cp := fun W => pointed_any (decN d0) m (by omega) (by omega) (by omega) W
      have et : txt (ptd (decN d0) m) = txt (textD (decN d0) n) := by
        unfold textD
        rw [hlen, if_neg c1, if_pos c2, hm, Int.toNat_natCast]
      have HE : Hid (txt (ptd (decN d0) m) = txt (textD (decN d0) n)) := et
      have HW : Hid (Below w.heap.size w (w1.alloc (.cells #[.string (txt (decN d0)), .int .i64 n] 46))) := hW
      have hmw : IntKind.i64.wrap (m : Int) = (m : Int) := by rw [IntKind.wrap_i64]; omega
      obtain ⟨c2a, c2b⟩ := c2
      have c1' : ¬ (k : Int) ≤ n := fun h => c1 ⟨h, c2b⟩
      clear et hW c1 hlen
      go_wp2_with (first | (go_at_call 28; refine (cp _).mono ?_; rintro ee w2 ⟨rfl, hb2⟩))
      go_ret
      exact POST.out _ _ HE.out (HW.out.trans (hb2.mono HW.out.size))
    · have cw := fun W hW => powered_any (decN d0) (n - 1) (by omega) (by omega) (by omega) (by omega) W hW
      rw [show n - 1 + 1 = n by omega] at cw
      have hW : Below w.heap.size w (w1.alloc (.cells #[.string (txt (decN d0)), .int .i64 n] 46)) := HB.out.alloc HB.out.size _
      have et : txt (pwd (decN d0) (n - 1)) = txt (textD (decN d0) n) := by
        unfold textD
        rw [hlen, if_neg c1, if_neg c2]
      have HE : Hid (txt (pwd (decN d0) (n - 1)) = txt (textD (decN d0) n)) := et
      have HW : Hid (Below w.heap.size w (w1.alloc (.cells #[.string (txt (decN d0)), .int .i64 n] 46))) := hW
      have hlw := HL.out.below hW
      have cw' := cw _ hlw
      rcases (by omega : 21 < n ∨ n ≤ -6) with h | h
      · have d1 : ¬ n ≤ 21 := by omega
        clear et hW c1 c2 hlen cw h
        go_wp2_with (first | (go_at_call 29; refine cw'.mono ?_; rintro ee w2 ⟨rfl, hb2⟩))
        go_ret
        exact POST.out _ _ HE.out (HW.out.trans (hb2.mono HW.out.size))
      · have d1 : ¬ (k : Int) ≤ n := by omega
        have d2 : ¬ -6 < n := by omega
        clear et hW c1 c2 hlen cw h
        go_wp2_with (first | (go_at_call 29; refine cw'.mono ?_; rintro ee w2 ⟨rfl, hb2⟩))
        go_ret
        exact POST.out _ _ HE.out (HW.out.trans (hb2.mono HW.out.size))
end Go.Proofs.YtellndmbllmjgaaGreatDoor
/- num.Text, at every word. -/
set_option linter.unusedVariables false
namespace Go.Proofs.YtellndmbllmjgaaGreatDoor
open Go.RowKit Go.Shelf Go.Sort Fs Fl

theorem xor_top (r : Nat) (h : r < 2 ^ 63) : r ^^^ 2 ^ 63 = 2 ^ 63 + r := by
  apply Nat.eq_of_testBit_eq
  intro i
  rw [Nat.testBit_xor, Nat.testBit_two_pow]
  rcases Nat.lt_trichotomy i 63 with hi | hi | hi
  · rw [Nat.testBit_two_pow_add_gt hi, decide_eq_false (by omega), Bool.xor_false]
  · subst hi
    rw [Nat.testBit_two_pow_add_eq, decide_eq_true rfl, Bool.xor_true]
  · have h1 : r < 2 ^ i := Nat.lt_of_lt_of_le h (Nat.pow_le_pow_right (by omega) (by omega))
    have h2 : 2 ^ 63 + r < 2 ^ i := Nat.lt_of_lt_of_le (by omega : 2 ^ 63 + r < 2 ^ 64) (Nat.pow_le_pow_right (by omega) (by omega))
    rw [Nat.testBit_lt_two_pow h1, Nat.testBit_lt_two_pow h2, decide_eq_false (by omega)]
    rfl
theorem neg_wd (s : Bool) (r : Nat) (h : r < 9223372036854775808) : Go.Op.negFloat .f64 (wd s r) = wd (!s) r := by
  have e : Go.Op.negFloat .f64 (wd s r) = wd s r ^^^ 2 ^ 63 := rfl
  rw [e]
  have hx := xor_top r h
  cases s
  · rw [wd_false, hx, Bool.not_false, wd_true]
  · have h2 : wd true r = r ^^^ 2 ^ 63 := by rw [hx, wd_true]
    rw [h2, Nat.xor_assoc, Nat.xor_self, Nat.xor_zero, Bool.not_true, wd_false]
theorem run_neg (s : Bool) (r : Nat) (h : r < 9223372036854775808) (w : World) : (Go.Op.unary .neg (.float .f64 (wd s r))).run Tryz.prog w = .ok (.float .f64 (wd (!s) r)) w := by
  have : Go.Op.unary .neg (.float .f64 (wd s r)) = pure (.float .f64 (Go.Op.negFloat .f64 (wd s r))) := rfl
  rw [this, neg_wd s r h]
  rfl
/-- What is written of a word: 'T' tells of what is above 0 and finite. -/
def writ (T : List Nat) (s : Bool) (r : Nat) : List Nat :=
  if 9218868437227405312 < r then [78, 97, 78]
  else if r = 0 then [48]
  else (if s then [45] else []) ++ (if r = 9218868437227405312 then [73, 110, 102, 105, 110, 105, 116, 121] else T)
theorem text_nan (x : Nat) (o1 : (FloatKind.f64.format.order x x != some .eq) = true) (w : World) : Calls Tryz.prog 8 #[.float .f64 x] w fun rr w' => rr = .returned (.string (txt [78, 97, 78])) ∧ w' = w := by
  go_enter Tryz.func8, Tryz.ntmps8
  go_wp2
  go_ret
  exact ⟨rfl, rfl⟩
theorem text_zero (x : Nat) (o1 : (FloatKind.f64.format.order x x != some .eq) = false) (o2 : (FloatKind.f64.format.order x 0 == some .lt) = false) (o3 : (FloatKind.f64.format.order x 0 == some .eq) = true) (w : World) : Calls Tryz.prog 8 #[.float .f64 x] w fun rr w' => rr = .returned (.string (txt [48])) ∧ w' = w := by
  go_enter Tryz.func8, Tryz.ntmps8
  go_wp2
  go_ret
  exact ⟨rfl, rfl⟩
theorem text_inf (x : Nat) (o1 : (FloatKind.f64.format.order x x != some .eq) = false) (o2 : (FloatKind.f64.format.order x 0 == some .lt) = false) (o3 : (FloatKind.f64.format.order x 0 == some .eq) = false) (o4 : (FloatKind.f64.format.order x 9218868437227405311 == some .gt) = true) (w : World) : Calls Tryz.prog 8 #[.float .f64 x] w fun rr w' => rr = .returned (.string (txt [73, 110, 102, 105, 110, 105, 116, 121])) ∧ w' = w := by
  have ci := isInf_one x
  rw [o4] at ci
  clear o4
  go_enter Tryz.func8, Tryz.ntmps8
  go_wp2_with (first | (go_at_call 25; refine (ci _).mono ?_; rintro e w' ⟨rfl, rfl⟩))
  go_ret
  exact ⟨rfl, rfl⟩
theorem txt_minus : (⟨#[45]⟩ : ByteArray) = txt [45] := rfl
set_option maxRecDepth 100000 in
theorem text_neg (x y : Nat) (P : ByteArray → Prop) (hP : ∀ t, P t → t.size ≤ 100000) (o1 : (FloatKind.f64.format.order x x != some .eq) = false) (o2 : (FloatKind.f64.format.order x 0 == some .lt) = true) (hn : ∀ w, (Go.Op.unary .neg (.float .f64 x)).run Tryz.prog w = .ok (.float .f64 y) w) (w : World)
    (c : Calls Tryz.prog 8 #[.float .f64 y] w fun rr w' => ∃ t, P t ∧ rr = .returned (.string t) ∧ Below w.heap.size w w') :
    Calls Tryz.prog 8 #[.float .f64 x] w fun rr w' => ∃ t, P t ∧ rr = .returned (.string (⟨#[45]⟩ ++ t)) ∧ Below w.heap.size w w' := by
  go_enter Tryz.func8, Tryz.ntmps8
  go_wp2_with (first | (go_at_call 8; refine c.mono ?_; rintro e w1 ⟨t, ht, rfl, hb⟩; have hts := hP t ht))
  go_ret
  exact ⟨t, ht, rfl, hb⟩
end Go.Proofs.YtellndmbllmjgaaGreatDoor
