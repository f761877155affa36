/- strconv.FormatUint to the base ten; Key.Text at a place. -/
import Derived.Test.YtmicdbplkfdfnaaGreatDoorCHo3x
import Derived.Shelf.Strconv.Itoa3
import Derived.Lib.AppendIntMem
import Derived.Test.YtmicdbplkfdfnaaGreatDoorCTk1x
import Derived.Test.YtmicdbplkfdfnaaGreatDoorCHq2x
import Derived.Test.YtmicdbplkfdfnaaGreatDoorCTd1x
import Derived.Test.YtmicdbplkfdfnaaGreatDoorCTj1x
import Derived.BigQuiet
import Derived.Deep.DeepCutAuto
import Derived.Deep.CutBlock
set_option linter.unusedVariables false
namespace Go.Proofs.YtmicdbplkfdfnaaGreatDoor
open Go.RowKit Go.Shelf Go.Sort

set_option maxRecDepth 100000 in
set_option maxHeartbeats 2000000 in
theorem fmtU (u : Nat) (hu : u < 4294967296) (w : World) (htab : Lib.TabIs Tryz.prog w "internal/strconv.uint64pow10" .u64 Lib.pow10Tab) :
    Calls Tryz.prog 76 #[.int .u64 (u : Int), .int .i64 10] w fun e w' => e = .returned (.string ⟨(Lib.decDigits u).toArray⟩) ∧ Kx [] w w' := by
  by_cases hs : u < 100
  · have c := fun W => Tryz.internal_strconv_small u hs W
    have hsz : (u : Int) < 100 := by omega
    go_enter Tryz.func76, Tryz.ntmps76
    go_wp2_with (first | (go_at_call 100; refine (c _).mono ?_; rintro e w1 ⟨rfl, rfl⟩))
    go_ret
    exact ⟨rfl, Kx.refl _ _⟩
  · have hsz : ¬ ((u : Int) < 100) := by omega
    have hu1 : 1 ≤ u := by omega
    have hnd : Lib.nDigits u ≤ 20 := by have := Lib.numDigits_eq u hu1 (by omega); split at this <;> omega
    obtain ⟨nd, hndd⟩ : ∃ nd, nd = Lib.nDigits u := ⟨_, rfl⟩
    have c1 := fun W h => Tryz.internal_strconv_numDigits u hu1 (by omega) W h
    have hH0 := Lib.holds_zero0 w 193 nd (by omega)
    have c2 := Tryz.internal_strconv_formatBase10 w.heap.size 0 24 u (Array.replicate nd 0) (w.alloc (.cells Lib.zeros24 193)) hH0 (by rw [Array.size_replicate, hndd]; exact Lib.lt_pow_nDigits u) (by omega) (by rw [Array.size_replicate]; omega)
    rw [Array.size_replicate] at c2
    rw [← hndd] at c1 hnd
    have hal : Tryz.prog.arrayLen 193 = 24 := by simp [Program.arrayLen, Tryz.underlying193]
    have hsl : ∀ W, (Instr.sliceAt 193 (.pointer (some ⟨w.heap.size, 0, none⟩)) none (some (.int .i64 (nd : Int))) none).run Tryz.prog W = .ok (.slice (some ⟨w.heap.size, 0, none⟩) nd 24) W := fun W => by
      rw [run_sliceAt_array_h W 193 ⟨w.heap.size, 0, none⟩ (by simp [Program.arrayLen, Program.elem, Tryz.underlying193]) .i64 (nd : Int) (by omega) (by rw [hal]; omega)]
      rw [hal]
      go_simp
    have HH0 := Lib.hid hH0
    have HND := Lib.hid hndd
    clear hH0 hal hndd
    go_enter Tryz.func76, Tryz.ntmps76
    go_wp2_with (first | (go_at_call 101; refine (c1 _ (Lib.tabIs_alloc htab _)).mono ?_; rintro e w1 ⟨rfl, rfl⟩))
    go_at_call 102
    refine c2.mono ?_
    rintro e w' ⟨rfl, k, v', dk, rfl, hF⟩
    have hcv : (convert 133 9 (.slice (some ⟨w.heap.size, 0, none⟩) nd 24)).run Tryz.prog ((putRow (fun (b : UInt8) => Value.int .u8 (b.toNat : Int)) (w.alloc (.cells Lib.zeros24 193)) w.heap.size 0 dk).drewN k) = .ok (.string ⟨(Lib.decDigits u).toArray⟩) ((putRow (fun (b : UInt8) => Value.int .u8 (b.toNat : Int)) (w.alloc (.cells Lib.zeros24 193)) w.heap.size 0 dk).drewN k) := by
      have hnd2 := HND.out
      rw [hnd2] at hF
      have h := run_convert_bytes_back (P := Tryz.prog) ((putRow (fun (b : UInt8) => Value.int .u8 (b.toNat : Int)) (w.alloc (.cells Lib.zeros24 193)) w.heap.size 0 dk).drewN k) 133 9 5 ⟨w.heap.size, 0, none⟩ 24 (Lib.decDigits u) Tryz.underlying133 Tryz.underlying5 Tryz.underlying9 (fun j hj => by
        rw [Lib.row_is_numeral hF j hj, Lib.add_plain, World.cell?_drewN]
        exact cell?_putRow (fun (b : UInt8) => Value.int .u8 (b.toNat : Int)) _ w.heap.size 0 _ dk HH0.out (by rw [hF.size, Array.size_replicate, hnd2]) j (by rw [hF.size]; rw [Lib.decDigits_length] at hj; exact hj))
      rw [Lib.decDigits_length, ← hnd2] at h
      exact h
    have hkx : Kx [] w ((putRow (fun (b : UInt8) => Value.int .u8 (b.toNat : Int)) (w.alloc (.cells Lib.zeros24 193)) w.heap.size 0 dk).drewN k) := by
      obtain ⟨os, eo⟩ := Lib.fin_at w (.cells Lib.zeros24 193) dk k 0
      rw [eo]
      exact Kx.ofBelow (Lib.below_grow w.heap.size w (Nat.le_refl _) k os) []
    go_wp2
    go_ret
    exact ⟨rfl, hkx⟩
end Go.Proofs.YtmicdbplkfdfnaaGreatDoor
set_option linter.unusedVariables false
namespace Go.Proofs.YtmicdbplkfdfnaaGreatDoor
open Go.RowKit Go.Shelf Go.Sort

set_option maxRecDepth 100000 in
set_option maxHeartbeats 2000000 in
theorem fmtU48 (u : Nat) (hu : u < 4294967296) (w : World) (htab : Lib.TabIs Tryz.prog w "internal/strconv.uint64pow10" .u64 Lib.pow10Tab) :
    Calls Tryz.prog 48 #[.int .u64 (u : Int), .int .i64 10] w fun e w' => e = .returned (.string ⟨(Lib.decDigits u).toArray⟩) ∧ Kx [] w w' := by
  have c := fmtU u hu w htab
  clear htab
  go_enter Tryz.func48, Tryz.ntmps48
  go_wp2_with (first | (go_at_call 76; refine c.mono ?_; rintro e w1 ⟨rfl, hk⟩))
  go_ret
  exact ⟨rfl, hk⟩
set_option maxRecDepth 100000 in
set_option maxHeartbeats 2000000 in
theorem text_place (nm : ByteArray) (u : Nat) (hu : u < 4294967296) (w : World) (htab : Lib.TabIs Tryz.prog w "internal/strconv.uint64pow10" .u64 Lib.pow10Tab) :
    Calls Tryz.prog 23 #[.agg #[.string nm, .int .u32 (u : Int), .bool true]] w fun e w' => e = .returned (.string ⟨(Lib.decDigits u).toArray⟩) ∧ Kx [] w w' := by
  have hw : IntKind.u64.wrap (u : Int) = (u : Int) := by rw [IntKind.wrap_u64]; omega
  have c := fun (o : Obj) => fmtU48 u hu (w.alloc o) (Lib.tabIs_alloc htab _)
  clear htab hu
  go_enter Tryz.func23, Tryz.ntmps23
  go_wp2_with (first | (go_at_call 48; refine (c _).mono ?_; rintro e w1 ⟨rfl, hk⟩))
  go_ret
  exact ⟨rfl, (Kx.alloc _ _ _).same hk⟩
end Go.Proofs.YtmicdbplkfdfnaaGreatDoor
set_option linter.unusedVariables false
namespace Go.Proofs.YtmicdbplkfdfnaaGreatDoor
open Go.RowKit Go.Shelf Go.Maps

/-- What the law's world was laid with. -/
structure Env (w : World) : Prop where
  u8 : Lib.Utf8Tabs 2 3 w
  er : ErrT w
  tb : Lib.TabIs Tryz.prog w "internal/strconv.uint64pow10" .u64 Lib.pow10Tab
theorem Env.below {w w' : World} (h : Env w) (hb : Below w.heap.size w w') : Env w' := ⟨tabs_below h.u8 hb, h.er.below hb, Lib.tabBelow_of_tabIs h.tb w' hb⟩
theorem Env.kx {w w' : World} (h : Env w) (hk : Kx [] w w') : Env w' := h.below (hk.below (Nat.le_refl _) (by simp))
theorem keyc (s : ByteArray) (hs : s.size ≤ 2000000) (w : World) (hE : Env w) : ∀ W, Kx [] w W → Calls Tryz.prog 26 #[.string s] W fun e w' => e = .returned (.agg #[.string (keyN (unitsS s)), .int .u32 (keyP (unitsS s)), .bool (keyI (unitsS s))]) ∧ Kx [] W w' := fun W hW =>
  (keyOf_any s hs W (hE.kx hW).u8).mono fun e w' h => ⟨h.1, Kx.ofBelow h.2 []⟩
theorem txt_bound (s : ByteArray) (hs : s.size ≤ 2000000) : (txt (unitsS s)).size ≤ 100000000 := by
  have h1 := txt_size (unitsS s)
  have h2 := unitsS_len s
  omega
theorem Def1.kx {w : World} {n0 O H b : Nat} {arr : Bool} {L : List ByteArray} {F : Fp} {c : Nat} {w' w'' : World} (h : Def1 w n0 O H b arr L F c w') (hk : Kx [] w' w'') : Def1 w n0 O H b arr L F c w'' := by
  obtain ⟨L', P', f', F', h1, h2, h3⟩ := h
  exact ⟨L', P', f', F', h1.kept0 hk, ⟨h2.1.trans hk (fun i hi => by cases hi), h2.2⟩, h3⟩
theorem Def1.from {w W : World} {n0 O H b : Nat} {arr : Bool} {L : List ByteArray} {F : Fp} {c : Nat} {w' : World} (hW : Kx [] w W) (h : Def1 W n0 O H b arr L F c w') : Def1 w n0 O H b arr L F c w' := by
  obtain ⟨L', P', f', F', h1, h2, h3⟩ := h
  exact ⟨L', P', f', F', h1, Nxt.from (n0 := n0) hW h2, h3⟩
theorem txt_bound2 (s : ByteArray) (hs : s.size ≤ 200000) : (txt (unitsS s)).size ≤ 2000000 := by
  have h1 := txt_size (unitsS s)
  have h2 := unitsS_len s
  omega
theorem FSt.plain1 {w : World} {n0 O H b : Nat} {arr : Bool} {L : List ByteArray} {P : List Pr} {f : Nat → Option Pr} {F : Fp} {c : Nat} (h : FSt w n0 O H b arr false L P f F) (hE : Env w) (hal : F.al = false) (I : Inv1 arr L P f c) (s : ByteArray) (hs : s.size ≤ 200000) (hlen : arr = true → s ≠ lenS) (hw : Bool) (j : Nat) (hj : j < 30)
    (hL : L.length + 1 ≤ 100) (hq : F.q + 1 ≤ 200) (hm : F.m + 1 ≤ 10000) :
    Calls Tryz.prog 7 #[.pointer (some ⟨O, 0, none⟩), .int .i64 1, .string s, .agg #[.bool true, .bool false, .bool false, .bool hw, .bool true, .bool true, .int .i64 3, .float .f64 (wN j), .string ⟨#[]⟩, .int .i64 0, .int .i64 0, .int .i64 0, .bool false, .bool true, .bool true]] w fun e w' => e = .returned (.int .i64 0) ∧ Def1 w n0 O H b arr L F c w' := by
  refine (define_plain O 1 s true false false hw true true false true true 3 0 0 0 (wN j) ⟨#[]⟩ (Def1 w n0 O H b arr L F c) w ?_).mono fun e w' h2 => ?_
  · intro W hW
    have hsW := h.kept0 hW
    refine (define_face O H b [b] 1 s _ _ _ true false false hw true true false true true 3 0 0 0 (wN j) ⟨#[]⟩ false true true false 3 (wN j) ⟨#[]⟩ none none none true false false hw true true (Def1 W n0 O H b arr L F c) W hsW.O0 hsW.objs (by omega) (by simp)
      (fun W2 hW2 => told_val O hw true true false true true 3 3 0 0 0 (wN j) (wN j) ⟨#[]⟩ ⟨#[]⟩ none W2 (fun W3 hW3 => value_num O (wN j) ⟨#[]⟩ 0 W3))
      (keyc s (by omega) W (hE.kx hW))
      (fun W2 hW2 => ((hsW.kept0 hW2).def1 hal I (unitsS s) (unitsS_lt s) (txt_bound2 s hs) (fun ha e => hlen ha (len_only s e)) hw j hj hL hq hm).mono fun e w' h3 => ⟨h3.1, h3.2.from hW2⟩)).mono fun e w' h3 => ⟨h3.1, h3.2.from hW⟩
  · obtain ⟨h1, W, h3, h4⟩ := h2
    exact ⟨h1, h3.kx h4⟩
end Go.Proofs.YtmicdbplkfdfnaaGreatDoor
set_option linter.unusedVariables false
namespace Go.Proofs.YtmicdbplkfdfnaaGreatDoor
open Go.RowKit Go.Shelf Go.Maps
attribute [local go_sem] run_store_flt

set_option maxRecDepth 100000 in
set_option maxHeartbeats 4000000 in
theorem define_len (b : Nat) (C nm : ByteArray) (pl : Int) (isP t0 t1 t2 hv hg hs hw he hc : Bool) (t4 : Int) (t5 : Nat) (t6 : ByteArray) (t7 t8 t9 : Option Addr) (E : Value → Prop) (R : World → Prop) (w : World) (hFV : ((hg || hs) && (hv || hw)) = false)
    (hb : w.cell? ⟨b, 0, none⟩ = some (.string C)) (hC : (C.toList == [65, 114, 114, 97, 121]) = true) (hnm : (nm.toList == [108, 101, 110, 103, 116, 104]) = true)
    (cD : ∀ W, Kx [] w W → Calls Tryz.prog 66 #[.pointer (some ⟨b, 0, none⟩), .agg #[.bool t0, .bool t1, .bool t2, .bool false, .int .i64 t4, .float .f64 t5, .string t6, .pointer t7, .pointer t8, .pointer t9, .bool hv, .bool hg, .bool hs, .bool hw, .bool he, .bool hc]] W fun e w' => ∃ er, e = .returned er ∧ E er ∧ R w') :
    Calls Tryz.prog 41 #[.pointer (some ⟨b, 0, none⟩), .agg #[.string nm, .int .u32 pl, .bool isP], .agg #[.bool t0, .bool t1, .bool t2, .bool false, .int .i64 t4, .float .f64 t5, .string t6, .pointer t7, .pointer t8, .pointer t9, .bool hv, .bool hg, .bool hs, .bool hw, .bool he, .bool hc]] w fun e w' => ∃ er, e = .returned er ∧ E er ∧ R w' := by
  have c1 := fun W => tellsF_any (.bool t0) (.bool t1) (.bool t2) (.bool false) (.int .i64 t4) (.float .f64 t5) (.string t6) (.pointer t7) (.pointer t8) (.pointer t9) hv hg hs hw he hc W
  have c2 := fun W => tellsV_any (.bool t0) (.bool t1) (.bool t2) (.bool false) (.int .i64 t4) (.float .f64 t5) (.string t6) (.pointer t7) (.pointer t8) (.pointer t9) hv hg hs hw he hc W
  obtain ⟨W1, hW1⟩ : ∃ W1, W1 = (w.alloc (Obj.cells #[.string nm, .int .u32 pl, .bool isP] 67)).alloc (Obj.cells #[.bool t0, .bool t1, .bool t2, .bool false, .int .i64 t4, .float .f64 t5, .string t6, .pointer t7, .pointer t8, .pointer t9, .bool hv, .bool hg, .bool hs, .bool hw, .bool he, .bool hc] 99) := ⟨_, rfl⟩
  have hk1 : Kx [] w W1 := by rw [hW1]; exact (show Kx [] w _ from (Kx.alloc _ _ _).alc _)
  have hK1 : W1.heap[w.heap.size]? = some (Obj.cells #[.string nm, .int .u32 pl, .bool isP] 67 (0, 0)) := by rw [hW1]; exact heap_old (heap_alloc_new _ _) _
  have hT1 : W1.heap[w.heap.size + 1]? = some (Obj.cells #[.bool t0, .bool t1, .bool t2, .bool false, .int .i64 t4, .float .f64 t5, .string t6, .pointer t7, .pointer t8, .pointer t9, .bool hv, .bool hg, .bool hs, .bool hw, .bool he, .bool hc] 99 (0, 0)) := by rw [hW1]; exact heap_alloc2_new _ _ _
  have b0 : W1.cell? ⟨b, 0, none⟩ = some (.string C) := hk1.cell hb (by simp)
  have CD := (show Hid (∀ W, Kx [] w W → Calls Tryz.prog 66 #[.pointer (some ⟨b, 0, none⟩), .agg #[.bool t0, .bool t1, .bool t2, .bool false, .int .i64 t4, .float .f64 t5, .string t6, .pointer t7, .pointer t8, .pointer t9, .bool hv, .bool hg, .bool hs, .bool hw, .bool he, .bool hc]] W fun e w' => ∃ er, e = .returned er ∧ E er ∧ R w') from cD)
  clear cD
  have HK1 := (show Hid (Kx [] w W1) from hk1)
  have HKB := (show Hid (W1.heap[w.heap.size]? = some (Obj.cells #[.string nm, .int .u32 pl, .bool isP] 67 (0, 0))) from hK1)
  have HTB := (show Hid (W1.heap[w.heap.size + 1]? = some (Obj.cells #[.bool t0, .bool t1, .bool t2, .bool false, .int .i64 t4, .float .f64 t5, .string t6, .pointer t7, .pointer t8, .pointer t9, .bool hv, .bool hg, .bool hs, .bool hw, .bool he, .bool hc] 99 (0, 0))) from hT1)
  clear hk1 hK1 hT1 hb
  have B0 := (show Hid (W1.cell? ⟨b, 0, none⟩ = some (.string C)) from b0)
  clear b0
  obtain ⟨F, hF⟩ : ∃ F, F = (hg || hs) := ⟨_, rfl⟩
  obtain ⟨V, hV⟩ : ∃ V, V = (hv || hw) := ⟨_, rfl⟩
  rw [← hF, ← hV] at hFV
  rw [← hF] at c1
  rw [← hV] at c2
  clear hF hV
  go_enter Tryz.func41, Tryz.ntmps41
  go_upto_region 1 with fail
  rw [← hW1]
  clear hW1
  have ct0 := cell_at HTB.out 0 rfl
  have ct1 := cell_at HTB.out 1 rfl
  have ct2 := cell_at HTB.out 2 rfl
  have ct3 := cell_at HTB.out 3 rfl
  have ct4 := cell_at HTB.out 4 rfl
  have ct5 := cell_at HTB.out 5 rfl
  have ct6 := cell_at HTB.out 6 rfl
  have ct7 := cell_at HTB.out 7 rfl
  have ct8 := cell_at HTB.out 8 rfl
  have ct9 := cell_at HTB.out 9 rfl
  have ct10 := cell_at HTB.out 10 rfl
  have ct11 := cell_at HTB.out 11 rfl
  have ct12 := cell_at HTB.out 12 rfl
  have ct13 := cell_at HTB.out 13 rfl
  have ct14 := cell_at HTB.out 14 rfl
  have ct15 := cell_at HTB.out 15 rfl
  go_cut [15] (fun v wx => v = .bool false ∧ Kx [] W1 wx)
  case first =>
    cases F
    · go_wp2_with (first | (go_at_call 64; refine (c1 _).mono ?_; rintro e w1 ⟨rfl, rfl⟩))
      go_meet
      exact ⟨rfl, Kx.alloc _ _ _⟩
    · cases V
      · have HT2 : Hid ((W1.alloc (Obj.cells #[.bool t0, .bool t1, .bool t2, .bool false, .int .i64 t4, .float .f64 t5, .string t6, .pointer t7, .pointer t8, .pointer t9, .bool hv, .bool hg, .bool hs, .bool hw, .bool he, .bool hc] 99)).heap[w.heap.size + 1]? = some (Obj.cells #[.bool t0, .bool t1, .bool t2, .bool false, .int .i64 t4, .float .f64 t5, .string t6, .pointer t7, .pointer t8, .pointer t9, .bool hv, .bool hg, .bool hs, .bool hw, .bool he, .bool hc] 99 (0, 0))) := heap_old HTB.out _
        have cu0 := cell_at HT2.out 0 rfl
        have cu1 := cell_at HT2.out 1 rfl
        have cu2 := cell_at HT2.out 2 rfl
        have cu3 := cell_at HT2.out 3 rfl
        have cu4 := cell_at HT2.out 4 rfl
        have cu5 := cell_at HT2.out 5 rfl
        have cu6 := cell_at HT2.out 6 rfl
        have cu7 := cell_at HT2.out 7 rfl
        have cu8 := cell_at HT2.out 8 rfl
        have cu9 := cell_at HT2.out 9 rfl
        have cu10 := cell_at HT2.out 10 rfl
        have cu11 := cell_at HT2.out 11 rfl
        have cu12 := cell_at HT2.out 12 rfl
        have cu13 := cell_at HT2.out 13 rfl
        have cu14 := cell_at HT2.out 14 rfl
        have cu15 := cell_at HT2.out 15 rfl
        go_wp2_with (first | (go_at_call 64; refine (c1 _).mono ?_; rintro e w1 ⟨rfl, rfl⟩) | (go_at_call 65; refine (c2 _).mono ?_; rintro e w1 ⟨rfl, rfl⟩))
        go_meet
        exact ⟨rfl, (Kx.alloc _ _ _).alc _⟩
      · simp at hFV
  case rest =>
    obtain ⟨rfl, hkc⟩ := hcut
    clear ct0 ct1 ct2 ct3 ct4 ct5 ct6 ct7 ct8 ct9 ct10 ct11 ct12 ct13 ct14 ct15
    replace HKB : Hid (wc.heap[w.heap.size]? = some (Obj.cells #[.string nm, .int .u32 pl, .bool isP] 67 (0, 0))) := hkc.get HKB.out (by simp)
    replace HTB : Hid (wc.heap[w.heap.size + 1]? = some (Obj.cells #[.bool t0, .bool t1, .bool t2, .bool false, .int .i64 t4, .float .f64 t5, .string t6, .pointer t7, .pointer t8, .pointer t9, .bool hv, .bool hg, .bool hs, .bool hw, .bool he, .bool hc] 99 (0, 0))) := hkc.get HTB.out (by simp)
    have b0 : wc.cell? ⟨b, 0, none⟩ = some (.string C) := hkc.cell B0.out (by simp)
    replace HK1 : Hid (Kx [] w wc) := (show Kx [] w wc from HK1.out.same hkc)
    clear hkc B0 c1 c2 hFV
    have k0 := cell_at HKB.out 0 rfl
    have k1 := cell_at HKB.out 1 rfl
    have k2 := cell_at HKB.out 2 rfl
    have ct0 := cell_at HTB.out 0 rfl
    have ct1 := cell_at HTB.out 1 rfl
    have ct2 := cell_at HTB.out 2 rfl
    have ct3 := cell_at HTB.out 3 rfl
    have ct4 := cell_at HTB.out 4 rfl
    have ct5 := cell_at HTB.out 5 rfl
    have ct6 := cell_at HTB.out 6 rfl
    have ct7 := cell_at HTB.out 7 rfl
    have ct8 := cell_at HTB.out 8 rfl
    have ct9 := cell_at HTB.out 9 rfl
    have ct10 := cell_at HTB.out 10 rfl
    have ct11 := cell_at HTB.out 11 rfl
    have ct12 := cell_at HTB.out 12 rfl
    have ct13 := cell_at HTB.out 13 rfl
    have ct14 := cell_at HTB.out 14 rfl
    have ct15 := cell_at HTB.out 15 rfl
    go_wp2_with (first | (go_at_call 66; fail))
    refine (CD.out wc HK1.out).mono ?_
    rintro e w2 ⟨er, rfl, hE, hR⟩
    have HE := (show Hid (E er) from hE)
    have HR := (show Hid (R w2) from hR)
    clear hE hR
    go_wp2
    go_ret
    exact ⟨er, rfl, HE.out, HR.out⟩
end Go.Proofs.YtmicdbplkfdfnaaGreatDoor
