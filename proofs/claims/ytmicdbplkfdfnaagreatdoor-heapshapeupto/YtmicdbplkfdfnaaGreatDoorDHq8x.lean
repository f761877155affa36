/- The face's Own. -/
import Derived.Test.YtmicdbplkfdfnaaGreatDoorCTm3x
import Derived.Deep.RegionLaw
import Derived.Test.YtmicdbplkfdfnaaGreatDoorCSq4x
import Derived.Test.YtmicdbplkfdfnaaGreatDoorCHo3x
import Derived.Test.YtmicdbplkfdfnaaGreatDoorCHt2x
import Derived.Test.YtmicdbplkfdfnaaGreatDoorCTj6x
import Derived.Test.YtmicdbplkfdfnaaGreatDoorCTj1x
import Derived.Test.YtmicdbplkfdfnaaGreatDoorCHn6x
import Derived.Test.YtmicdbplkfdfnaaGreatDoorCHq2x
import Derived.Test.YtmicdbplkfdfnaaGreatDoorCHq7x
import Derived.Test.YtmicdbplkfdfnaaGreatDoorCHo6x
set_option linter.unusedVariables false
namespace Go.Proofs.YtmicdbplkfdfnaaGreatDoor
open Go.RowKit Go.Shelf Go.Maps
attribute [local go_sem] run_store_flt
/-- Nothing told. -/
def noD : Value := .agg #[.bool false, .bool false, .bool false, .bool false, .bool false, .bool false, .int .i64 0, .float .f64 0, .string ⟨#[]⟩, .int .i64 0, .int .i64 0, .int .i64 0, .bool false, .bool false, .bool false]
set_option maxRecDepth 100000 in
set_option maxHeartbeats 2000000 in
theorem ownF_no (O H b : Nat) (l : List Nat) (r : Int) (s nm : ByteArray) (pl : Int) (isP : Bool) (w : World)
    (hO : w.cell? ⟨O, 0, none⟩ = some (.pointer (some ⟨H, 0, none⟩))) (hH : Objs w H l) (hr1 : 1 ≤ r) (hr : l[(r - 1).toNat]? = some b)
    (cK : ∀ W, Kx [] w W → Calls Tryz.prog 26 #[.string s] W fun e w' => e = .returned (.agg #[.string nm, .int .u32 pl, .bool isP]) ∧ Kx [] W w')
    (cO : ∀ W, Kx [] w W → Calls Tryz.prog 25 #[.pointer (some ⟨b, 0, none⟩), .agg #[.string nm, .int .u32 pl, .bool isP]] W fun e w' => e = .returned (.tuple #[noP, .bool false]) ∧ Kx [] W w') :
    Calls Tryz.prog 10 #[.pointer (some ⟨O, 0, none⟩), .int .i64 r, .string s] w fun e w' => e = .returned (.tuple #[noD, .bool false]) ∧ Kx [] w w' := by
  obtain ⟨W0, hW0⟩ : ∃ W0, W0 = w.alloc (Obj.cells #[.bool false, .bool false, .bool false, .bool false, .bool false, .bool false, .int .i64 0, .float .f64 0, .string ⟨#[]⟩, .int .i64 0, .int .i64 0, .int .i64 0, .bool false, .bool false, .bool false] 34) := ⟨_, rfl⟩
  have hk0 : Kx [] w W0 := by rw [hW0]; exact Kx.alloc _ _ _
  have hR0 : W0.heap[w.heap.size]? = some (Obj.cells #[.bool false, .bool false, .bool false, .bool false, .bool false, .bool false, .int .i64 0, .float .f64 0, .string ⟨#[]⟩, .int .i64 0, .int .i64 0, .int .i64 0, .bool false, .bool false, .bool false] 34 (0, 0)) := by rw [hW0]; exact heap_alloc_new _ _
  have o0 : W0.cell? ⟨O, 0, none⟩ = some (.pointer (some ⟨H, 0, none⟩)) := hk0.cell hO (by simp)
  have c1 := numbered_any H l r W0 (hH.kept hk0)
  rw [objP_hit hr1 hr] at c1
  have CK := (show Hid _ from cK)
  have CO := (show Hid _ from cO)
  have HK0 : Hid (Kx [] w W0) := (show Kx [] w W0 from hk0)
  have HR0 := (show Hid _ from hR0)
  clear cK cO hH hO hr1 hr hk0 hR0
  rw [hW0] at o0
  unfold noD
  go_enter Tryz.func10, Tryz.ntmps10
  go_wp2_with (first | (go_at_call 21; fail))
  rw [← hW0]
  clear hW0 o0
  refine c1.mono ?_
  rintro e w1 ⟨rfl, rfl⟩
  go_wp2_with (first | (go_at_call 26; fail))
  refine (CK.out _ HK0.out).mono ?_
  rintro e w2 ⟨rfl, hk2⟩
  have HK2 : Hid (Kx [] w w2) := (show Kx [] w w2 from HK0.out.same hk2)
  replace HR0 : Hid (w2.heap[w.heap.size]? = some (Obj.cells #[.bool false, .bool false, .bool false, .bool false, .bool false, .bool false, .int .i64 0, .float .f64 0, .string ⟨#[]⟩, .int .i64 0, .int .i64 0, .int .i64 0, .bool false, .bool false, .bool false] 34 (0, 0))) := hk2.get HR0.out (by simp)
  clear hk2 CK HK0 c1
  go_wp2_with (first | (go_at_call 25; fail))
  refine (CO.out _ HK2.out).mono ?_
  rintro e w3 ⟨rfl, hk3⟩
  have HK3 : Hid (Kx [] w w3) := (show Kx [] w w3 from HK2.out.same hk3)
  replace HR0 : Hid (w3.heap[w.heap.size]? = some (Obj.cells #[.bool false, .bool false, .bool false, .bool false, .bool false, .bool false, .int .i64 0, .float .f64 0, .string ⟨#[]⟩, .int .i64 0, .int .i64 0, .int .i64 0, .bool false, .bool false, .bool false] 34 (0, 0))) := hk3.get HR0.out (by simp)
  clear hk3 CO HK2
  obtain ⟨W4, hW4⟩ : ∃ W4, W4 = w3.alloc (Obj.cells #[.bool false, .bool false, .bool false, .bool false, .int .i64 0, .float .f64 0, .string ⟨#[]⟩, .pointer none, .pointer none, .pointer none] 75) := ⟨_, rfl⟩
  have HK4 : Hid (Kx [] w W4) := by rw [hW4]; exact (show Kx [] w _ from HK3.out.alc _)
  have HR4 : Hid (W4.heap[w.heap.size]? = some (Obj.cells #[.bool false, .bool false, .bool false, .bool false, .bool false, .bool false, .int .i64 0, .float .f64 0, .string ⟨#[]⟩, .int .i64 0, .int .i64 0, .int .i64 0, .bool false, .bool false, .bool false] 34 (0, 0))) := by rw [hW4]; exact heap_old HR0.out _
  have HP4 : Hid (W4.heap[w3.heap.size]? = some (Obj.cells #[.bool false, .bool false, .bool false, .bool false, .int .i64 0, .float .f64 0, .string ⟨#[]⟩, .pointer none, .pointer none, .pointer none] 75 (0, 0))) := by rw [hW4]; exact heap_alloc_new _ _
  clear HK3 HR0
  unfold noP
  have q0 := cell_at HR4.out 0 rfl
  have q1 := cell_at HR4.out 1 rfl
  have q2 := cell_at HR4.out 2 rfl
  have q3 := cell_at HR4.out 3 rfl
  have q4 := cell_at HR4.out 4 rfl
  have q5 := cell_at HR4.out 5 rfl
  have q6 := cell_at HR4.out 6 rfl
  have q7 := cell_at HR4.out 7 rfl
  have q8 := cell_at HR4.out 8 rfl
  have q9 := cell_at HR4.out 9 rfl
  have q10 := cell_at HR4.out 10 rfl
  have q11 := cell_at HR4.out 11 rfl
  have q12 := cell_at HR4.out 12 rfl
  have q13 := cell_at HR4.out 13 rfl
  have q14 := cell_at HR4.out 14 rfl
  have hf := fr_all HR4.out
  rw [hW4] at hf q0 q1 q2 q3 q4 q5 q6 q7 q8 q9 q10 q11 q12 q13 q14
  go_wp2
  rw [← hW4]
  have r0 := heap_set_at (C' := #[.bool false, .bool false, .bool false, .bool false, .bool false, .bool false, .int .i64 0, .float .f64 0, .string ⟨#[]⟩, .int .i64 0, .int .i64 0, .int .i64 0, .bool false, .bool false, .bool false]) HR4.out 0 (.bool false) rfl
  have r1 := heap_set_at (C' := #[.bool false, .bool false, .bool false, .bool false, .bool false, .bool false, .int .i64 0, .float .f64 0, .string ⟨#[]⟩, .int .i64 0, .int .i64 0, .int .i64 0, .bool false, .bool false, .bool false]) r0 1 (.bool false) rfl
  have r2 := heap_set_at (C' := #[.bool false, .bool false, .bool false, .bool false, .bool false, .bool false, .int .i64 0, .float .f64 0, .string ⟨#[]⟩, .int .i64 0, .int .i64 0, .int .i64 0, .bool false, .bool false, .bool false]) r1 2 (.bool false) rfl
  have r3 := heap_set_at (C' := #[.bool false, .bool false, .bool false, .bool false, .bool false, .bool false, .int .i64 0, .float .f64 0, .string ⟨#[]⟩, .int .i64 0, .int .i64 0, .int .i64 0, .bool false, .bool false, .bool false]) r2 3 (.bool false) rfl
  have r4 := heap_set_at (C' := #[.bool false, .bool false, .bool false, .bool false, .bool false, .bool false, .int .i64 0, .float .f64 0, .string ⟨#[]⟩, .int .i64 0, .int .i64 0, .int .i64 0, .bool false, .bool false, .bool false]) r3 4 (.bool false) rfl
  have r5 := heap_set_at (C' := #[.bool false, .bool false, .bool false, .bool false, .bool false, .bool false, .int .i64 0, .float .f64 0, .string ⟨#[]⟩, .int .i64 0, .int .i64 0, .int .i64 0, .bool false, .bool false, .bool false]) r4 5 (.bool false) rfl
  have r6 := heap_set_at (C' := #[.bool false, .bool false, .bool false, .bool false, .bool false, .bool false, .int .i64 0, .float .f64 0, .string ⟨#[]⟩, .int .i64 0, .int .i64 0, .int .i64 0, .bool false, .bool false, .bool false]) r5 6 (.int .i64 0) rfl
  have r7 := heap_set_at (C' := #[.bool false, .bool false, .bool false, .bool false, .bool false, .bool false, .int .i64 0, .float .f64 0, .string ⟨#[]⟩, .int .i64 0, .int .i64 0, .int .i64 0, .bool false, .bool false, .bool false]) r6 7 (.float .f64 0) rfl
  have r8 := heap_set_at (C' := #[.bool false, .bool false, .bool false, .bool false, .bool false, .bool false, .int .i64 0, .float .f64 0, .string ⟨#[]⟩, .int .i64 0, .int .i64 0, .int .i64 0, .bool false, .bool false, .bool false]) r7 8 (.string ⟨#[]⟩) rfl
  have r9 := heap_set_at (C' := #[.bool false, .bool false, .bool false, .bool false, .bool false, .bool false, .int .i64 0, .float .f64 0, .string ⟨#[]⟩, .int .i64 0, .int .i64 0, .int .i64 0, .bool false, .bool false, .bool false]) r8 9 (.int .i64 0) rfl
  have r10 := heap_set_at (C' := #[.bool false, .bool false, .bool false, .bool false, .bool false, .bool false, .int .i64 0, .float .f64 0, .string ⟨#[]⟩, .int .i64 0, .int .i64 0, .int .i64 0, .bool false, .bool false, .bool false]) r9 10 (.int .i64 0) rfl
  have r11 := heap_set_at (C' := #[.bool false, .bool false, .bool false, .bool false, .bool false, .bool false, .int .i64 0, .float .f64 0, .string ⟨#[]⟩, .int .i64 0, .int .i64 0, .int .i64 0, .bool false, .bool false, .bool false]) r10 11 (.int .i64 0) rfl
  have r12 := heap_set_at (C' := #[.bool false, .bool false, .bool false, .bool false, .bool false, .bool false, .int .i64 0, .float .f64 0, .string ⟨#[]⟩, .int .i64 0, .int .i64 0, .int .i64 0, .bool false, .bool false, .bool false]) r11 12 (.bool false) rfl
  have r13 := heap_set_at (C' := #[.bool false, .bool false, .bool false, .bool false, .bool false, .bool false, .int .i64 0, .float .f64 0, .string ⟨#[]⟩, .int .i64 0, .int .i64 0, .int .i64 0, .bool false, .bool false, .bool false]) r12 13 (.bool false) rfl
  have r14 := heap_set_at (C' := #[.bool false, .bool false, .bool false, .bool false, .bool false, .bool false, .int .i64 0, .float .f64 0, .string ⟨#[]⟩, .int .i64 0, .int .i64 0, .int .i64 0, .bool false, .bool false, .bool false]) r13 14 (.bool false) rfl
  refine bodyPost_ret (results_row_tmp rfl _ _ w.heap.size 34 _ (0, 0) _ rfl r14 Tryz.underlying34 rfl (by kernel_rfl) _ rfl) rfl ?_
  exact ⟨rfl, HK4.out.trans ((((((((((((((((Kx.refl [w.heap.size] W4).set (by simp) _).set (by simp) _).set (by simp) _).set (by simp) _).set (by simp) _).set (by simp) _).set (by simp) _).set (by simp) _).set (by simp) _).set (by simp) _).set (by simp) _).set (by simp) _).set (by simp) _).set (by simp) _).set (by simp) _) (fun i hi => .inr (by simp at hi; omega))⟩
end Go.Proofs.YtmicdbplkfdfnaaGreatDoor
/- Object.Keys of an object without places. -/
set_option linter.unusedVariables false
namespace Go.Proofs.YtmicdbplkfdfnaaGreatDoor
open Go.RowKit Go.Shelf Go.Maps

set_option maxRecDepth 100000 in
set_option maxHeartbeats 2000000 in
theorem keys_obj (b S N M n c0 : Nat) (c : Nat) (ga : Option Addr) (k fr nx al kp : Value) (a : Option Addr) (cl pr fx num nv st kp2 : Value) (L : List ByteArray) (cnt : Nat) (w : World)
    (hB : w.heap[b]? = some (.cells #[cl, pr, fx, .nilIface, num, .pointer (some ⟨S, 0, none⟩), nv, .slice a 0 c0, .map none, kp2] 111 (0, 0)))
    (hS : w.heap[S]? = some (.cells #[.pointer (some ⟨N, 0, none⟩), .int .i64 (cnt : Int), fr, nx, al, kp] 118 (0, 0)))
    (hN : w.heap[N]? = some (.cells #[.slice ga L.length c, .map (some M), k] 121 (0, 0))) (hrow : w.ownsRow 0 9 1 (.slice ga L.length c) L.length (L.map Value.string)) (hm : IMap w M n (pf L)) (hnd : L.Nodup) (hs : ∀ x ∈ L, x.size ≤ maxLen) (hL : L.length ≤ 1000) (hc : cnt ≤ L.length) :
    Calls Tryz.prog 22 #[.pointer (some ⟨b, 0, none⟩)] w fun e w' => ∃ v, e = .returned v ∧ w'.ownsRow w.heap.size 67 3 v cnt (kcells (L.take cnt)) ∧ Kx [] w w' := by
  have cU := units_zero b w (cell_at hB 3 rfl)
  have cP := places_nil b a c0 w (cell_at hB 7 rfl) (cell_at hB 8 rfl)
  have HB := (show Hid _ from hB)
  have HS := (show Hid _ from hS)
  have HN := (show Hid _ from hN)
  have HR := (show Hid _ from hrow)
  have HM := (show Hid _ from hm)
  have HX := (show Hid _ from And.intro hnd hs)
  have hcc : cnt ≤ c := by
    rcases hrow.2 with ⟨e, h0⟩ | ⟨g', cap, cur, e, _, _, h1, _⟩
    · omega
    · simp only [Value.slice.injEq] at e
      omega
  clear hB hS hN hrow hm hnd hs
  go_enter Tryz.func22, Tryz.ntmps22
  go_wp2_with (first | (go_at_call 45; refine cU.mono ?_; rintro e w1 ⟨rfl, h1⟩; obtain rfl := h1.symm))
  refine wp_loop_rounds 1 ?_
  rw [rounds_succ]
  go_wp2_with (first | (go_at_call 46; refine cP.mono ?_; rintro e w1 ⟨rfl, hk1⟩))
  refine wp_loop_rounds 1 ?_
  rw [rounds_succ]
  have hB1 := hk1.get HB.out (by simp)
  have hS1 := hk1.get HS.out (by simp)
  have hN1 := hk1.get HN.out (by simp)
  have b5 := cell_at hB1 5 rfl
  have s0 := cell_at hS1 0 rfl
  have s1 := cell_at hS1 1 rfl
  have n0 := cell_at hN1 0 rfl
  clear hB1 hS1 hN1
  have HK1 : Hid (Kx [] w w1) := (show Kx [] w w1 from hk1)
  clear hk1 cP cU
  go_wp2
  go_quiet (fail)
  have HK2 : Hid (Kx [] w (w1.drewN nq)) := (show Kx [] w (w1.drewN nq) from HK1.out.drw nq)
  obtain ⟨W2, hW2⟩ : ∃ W2, W2 = w1.drewN nq := ⟨_, rfl⟩
  rw [← hW2] at HK2 ⊢
  clear hW2 HK1 b5 s0 s1 n0
  go_wp2
  obtain ⟨i0, hi, hz0, hz1, hz2⟩ := info_parts info67
  go_loopw [3, 8, 9, 55] (fun v _ _ i wr => ∃ q : Nat, q ≤ cnt ∧ i = .int .i64 q ∧ Hid (wr.ownsRow w.heap.size 67 3 v q (kcells (L.take q)) ∧ Kx [] w wr))
    (fun _ _ _ i _ => cnt - (intOf i).toNat)
  case atStart => exact ⟨0, Nat.zero_le _, rfl, (show _ ∧ _ from ⟨World.ownsRow_nil _ _ _ _, HK2.out⟩)⟩
  case round =>
    obtain ⟨q, hq, rfl, hH⟩ := hrel
    obtain ⟨r1, r2⟩ := hH.out
    clear hH HK2
    by_cases hlt2 : q < cnt
    · have hR : wr.ownsRow 0 9 1 (.slice ga L.length c) L.length (L.map Value.string) := r2.owns HR.out (fun g hg => by simp)
      obtain ⟨g, cg, ea⟩ := ownsRow_pos (by omega) hR
      simp only [Value.slice.injEq] at ea
      obtain ⟨rfl, -, rfl⟩ := ea
      obtain ⟨x, hx⟩ : ∃ x, L[q]? = some x := ⟨_, List.getElem?_eq_getElem (by omega)⟩
      have hxs : x.size ≤ maxLen := HX.out.2 x (List.mem_of_getElem? hx)
      have hcell : wr.cell? ⟨g, q, none⟩ = some (.string x) := by
        have := hR.cells (g := g) rfl q (.string x) (by rw [List.getElem?_map, hx]; rfl)
        rw [Addr.add_lit, Nat.zero_add] at this
        exact this
      have hf := (pf_get _ L rfl HX.out.1 x q).2 hx
      have cH := has_any N M n q g c k L (pf L) x wr (r2.get HN.out (by simp)) hcell (by omega) hL (r2.imap HM.out (by simp)) hxs hf
      have htk : L.take (q + 1) = L.take q ++ [x] := by rw [List.take_add_one, hx]; rfl
      have R1 : Hid (wr.ownsRow w.heap.size 67 3 u3 q (kcells (L.take q))) := r1
      have R2 : Hid (Kx [] w wr) := (show Kx [] w wr from r2)
      have hsz := r2.size
      have q1 : q + 1 ≤ maxLen := by unfold maxLen; omega
      have HT := (show Hid _ from htk)
      clear r1 r2 hR hx hxs hf htk
      go_wp2_with (first | (go_at_call 47; refine cH.mono ?_; rintro e w3 ⟨rfl, qq, rfl⟩) | (at_builtin; refine wpList_append_own _ rfl _ _ 63 rfl w.heap.size 67 i0 _ 3 24 Tryz.underlying63 hi hz0 hz1 hz2 rfl (by decide) _ _ _ rfl ((show (wr.drewN qq).ownsRow _ _ _ _ _ _ from R1.out).alloc _) ⟨wr.heap.size, 0, none⟩ 1 1 [.string x, .int .u32 0, .bool false] rfl rfl (cells_new (wr.drewN qq) [.string x, .int .u32 0, .bool false] 67) (by intro u hu; simp at hu; rcases hu with rfl | rfl | rfl <;> rfl) q1 (by omega) (by simp; omega) ?_; intro v' w4 hown' hgrow hnil'))
      have hg2 : ((wr.drewN qq).alloc (Obj.cells #[.string x, .int .u32 0, .bool false] 67)).grownBy w4 u3.ownBlock := hgrow
      have HH : Hid (w4.ownsRow w.heap.size 67 3 v' (q + 1) (kcells (L.take (q + 1))) ∧ Kx [] w w4) := by
        refine (show _ ∧ _ from ⟨?_, ?_⟩)
        · rw [HT.out, kcells_snoc]; exact hown'
        · exact ((R2.out.drw qq).alc (Obj.cells #[.string x, .int .u32 0, .bool false] 67)).trans (Kx.grown hg2) (fun i hi => .inr (by
            have h3 : u3.ownBlock = some i := by simpa using hi
            exact (R1.out.lt i h3).1))
      clear hown' hgrow hg2 hnil' R1 R2 HT cH hcell
      go_roundw
      case rel => exact ⟨q + 1, by omega, by go_num, HH⟩
      case measure => simp [intOf]; omega
    · have hqc : q = cnt := by omega
      subst hqc
      have R : Hid (wr.ownsRow w.heap.size 67 3 u3 q (kcells (L.take q)) ∧ Kx [] w wr) := ⟨r1, r2⟩
      clear r1 r2
      go_wp2
      go_ret
      exact ⟨_, rfl, R.out.1, R.out.2⟩
end Go.Proofs.YtmicdbplkfdfnaaGreatDoor
/- The face's Keys. -/
set_option linter.unusedVariables false
namespace Go.Proofs.YtmicdbplkfdfnaaGreatDoor
open Go.RowKit Go.Shelf Go.Maps

theorem kcells_get : ∀ (L : List ByteArray) (q : Nat) (x : ByteArray), L[q]? = some x → (kcells L)[q * 3]? = some (.string x) ∧ (kcells L)[q * 3 + 1]? = some (.int .u32 0) ∧ (kcells L)[q * 3 + 2]? = some (.bool false)
  | [], q, x, h => by simp at h
  | a :: L, 0, x, h => by
    simp at h
    subst h
    simp [kcells]
  | a :: L, q + 1, x, h => by
    have := kcells_get L q x (by simpa using h)
    have e : kcells (a :: L) = [.string a, .int .u32 0, .bool false] ++ kcells L := by simp [kcells]
    rw [e]
    refine ⟨?_, ?_, ?_⟩
    · rw [List.getElem?_append_right (by simp; omega)]
      simpa [Nat.add_mul] using this.1
    · rw [List.getElem?_append_right (by simp; omega), show (q + 1) * 3 + 1 - ([.string a, .int .u32 0, .bool false] : List Value).length = q * 3 + 1 by simp; omega]
      exact this.2.1
    · rw [List.getElem?_append_right (by simp; omega), show (q + 1) * 3 + 2 - ([.string a, .int .u32 0, .bool false] : List Value).length = q * 3 + 2 by simp; omega]
      exact this.2.2
set_option maxRecDepth 100000 in
set_option maxHeartbeats 2000000 in
theorem keys_face (O H b : Nat) (l : List Nat) (r : Int) (L : List ByteArray) (w : World)
    (hO : w.cell? ⟨O, 0, none⟩ = some (.pointer (some ⟨H, 0, none⟩))) (hH : Objs w H l) (hr1 : 1 ≤ r) (hr : l[(r - 1).toNat]? = some b) (hL : L.length ≤ 1000)
    (cK : Calls Tryz.prog 22 #[.pointer (some ⟨b, 0, none⟩)] w fun e w' => ∃ v, e = .returned v ∧ w'.ownsRow w.heap.size 67 3 v L.length (kcells L) ∧ Kx [] w w') :
    Calls Tryz.prog 8 #[.pointer (some ⟨O, 0, none⟩), .int .i64 r] w fun e w' => ∃ v, e = .returned v ∧ w'.ownsRow w.heap.size 9 1 v L.length (L.map Value.string) ∧ Kx [] w w' := by
  have c1 := numbered_any H l r w hH
  rw [objP_hit hr1 hr] at c1
  have CK := (show Hid (∀ _ : Unit, _) from fun _ : Unit => cK)
  clear cK hH hr1 hr
  go_enter Tryz.func8, Tryz.ntmps8
  go_wp2_with (first | (go_at_call 21; refine c1.mono ?_; rintro e w1 ⟨rfl, rfl⟩) | (go_at_call 22; refine (CK.out ()).mono ?_; rintro e w2 ⟨v, rfl, hrow, hk⟩; obtain ⟨va, vc, rfl⟩ := owns_slice hrow))
  have HRW : Hid (w2.ownsRow w1.heap.size 67 3 (.slice va L.length vc) L.length (kcells L)) := hrow
  have HK2 : Hid (Kx [] w1 w2) := (show Kx [] w1 w2 from hk)
  clear hrow hk c1 CK hO
  obtain ⟨i0, hi, hz0, hz1, hz2⟩ := info_parts info9
  go_loopw [6, 8, 20] (fun v _ i wr => ∃ q : Nat, q ≤ L.length ∧ i = .int .i64 q ∧ Hid (wr.ownsRow w2.heap.size 9 1 v q ((L.take q).map Value.string) ∧ Kx [] w2 wr))
    (fun _ _ i _ => L.length - (intOf i).toNat)
  case atStart => exact ⟨0, Nat.zero_le _, rfl, (show _ ∧ _ from ⟨World.ownsRow_nil _ _ _ _, Kx.refl _ _⟩)⟩
  case round =>
    obtain ⟨q, hq, rfl, hH⟩ := hrel
    obtain ⟨r1, r2⟩ := hH.out
    clear hH
    by_cases hlt2 : q < L.length
    · have hR := r2.owns HRW.out (fun g hg => by simp)
      obtain ⟨g, cg, ea⟩ := ownsRow_pos (by omega) hR
      simp only [Value.slice.injEq] at ea
      obtain ⟨rfl, -, rfl⟩ := ea
      obtain ⟨x, hx⟩ : ∃ x, L[q]? = some x := ⟨_, List.getElem?_eq_getElem hlt2⟩
      obtain ⟨x0, x1, x2⟩ := kcells_get L q x hx
      have y0 : wr.cell? ⟨g, q * 3, none⟩ = some (.string x) := by
        have := hR.cells (g := g) rfl _ _ x0
        rw [Addr.add_lit, Nat.zero_add] at this
        exact this
      have y1 : wr.cell? ⟨g, q * 3 + 1, none⟩ = some (.int .u32 0) := by
        have := hR.cells (g := g) rfl _ _ x1
        rw [Addr.add_lit, Nat.zero_add] at this
        exact this
      have y2 : wr.cell? ⟨g, q * 3 + 2, none⟩ = some (.bool false) := by
        have := hR.cells (g := g) rfl _ _ x2
        rw [Addr.add_lit, Nat.zero_add] at this
        exact this
      have cT := text_name x 0
      have htk : L.take (q + 1) = L.take q ++ [x] := by rw [List.take_add_one, hx]; rfl
      have R1 : Hid (wr.ownsRow w2.heap.size 9 1 u6 q ((L.take q).map Value.string)) := r1
      have R2 : Hid (Kx [] w2 wr) := (show Kx [] w2 wr from r2)
      have hsz := r2.size
      have q1 : q + 1 ≤ maxLen := by unfold maxLen; omega
      have HT := (show Hid _ from htk)
      clear r1 r2 hR hx htk x0 x1 x2
      go_wp2_with (first | (go_at_call 23; refine (cT _).mono ?_; rintro e w3 ⟨rfl, hk3⟩; have HK3 : Hid (Kx [] wr w3) := (show Kx [] wr w3 from (Kx.alloc [] wr _).same hk3); have R3 : Hid (w3.ownsRow w2.heap.size 9 1 u6 q ((L.take q).map Value.string)) := HK3.out.owns R1.out (fun g hg => by simp); have hs3 := HK3.out.size; clear hk3) | (at_builtin; refine wpList_append_own _ rfl _ _ 22 rfl w2.heap.size 9 i0 _ 1 16 Tryz.underlying22 hi hz0 hz1 hz2 rfl (by decide) _ _ _ rfl (R3.out.alloc _) ⟨w3.heap.size, 0, none⟩ 1 1 [.string x] rfl rfl (cells_new w3 [.string x] 9) (by intro u hu; simp at hu; rw [hu]; rfl) q1 (by omega) (by simp; omega) ?_; intro v' w4 hown' hgrow hnil'))
      have hg2 : (w3.alloc (Obj.cells #[.string x] 9)).grownBy w4 u6.ownBlock := hgrow
      have HH : Hid (w4.ownsRow w2.heap.size 9 1 v' (q + 1) ((L.take (q + 1)).map Value.string) ∧ Kx [] w2 w4) := by
        refine (show _ ∧ _ from ⟨?_, ?_⟩)
        · rw [HT.out, List.map_append]; exact hown'
        · exact (((R2.out.same HK3.out)).alc (Obj.cells #[.string x] 9)).trans (Kx.grown hg2) (fun i hi => .inr (by
            have h3 : u6.ownBlock = some i := by simpa using hi
            exact (R1.out.lt i h3).1))
      clear hown' hgrow hg2 hnil' R1 R2 R3 HT HK3 y0 y1 y2
      go_roundw
      case rel => exact ⟨q + 1, by omega, by go_num, HH⟩
      case measure => simp [intOf]; omega
    · have hqc : q = L.length := by omega
      subst hqc
      have R : Hid (wr.ownsRow w2.heap.size 9 1 u6 L.length ((L.take L.length).map Value.string) ∧ Kx [] w2 wr) := ⟨r1, r2⟩
      clear r1 r2
      go_wp2
      go_ret
      obtain ⟨r1, r2⟩ := R.out
      rw [List.take_length] at r1
      exact ⟨_, rfl, owns_low r1 HK2.out.size, HK2.out.same r2⟩
end Go.Proofs.YtmicdbplkfdfnaaGreatDoor
/- A name goes from a map; how many are left. -/
set_option linter.unusedVariables false
namespace Go.Proofs.YtmicdbplkfdfnaaGreatDoor
open Go.RowKit Go.Shelf Go.Maps Go.ChangeMaps Go.WideElems

theorem nodup_le {α : Type} : ∀ (a b : List α), a.Nodup → (∀ x ∈ a, x ∈ b) → a.length ≤ b.length
  | [], _, _, _ => Nat.zero_le _
  | x :: a, b, h, hs => by
    obtain ⟨b1, b2, rfl⟩ := List.append_of_mem (hs x (by simp))
    have := nodup_le a (b1 ++ b2) (List.nodup_cons.1 h).2 (fun y hy => by
      have h1 := hs y (by simp [hy])
      simp only [List.mem_append, List.mem_cons] at h1 ⊢
      rcases h1 with h1 | h1 | h1
      · exact .inl h1
      · exact absurd (h1 ▸ hy) (List.nodup_cons.1 h).1
      · exact .inr h1)
    simp at this ⊢
    omega
theorem string_ne {t s : ByteArray} (ht : t ≠ s) : (Lit.string t.data.toList) ≠ Lit.string s.data.toList := by
  intro e
  apply ht
  have e2 : t.data.toList = s.data.toList := by simpa using e
  obtain ⟨⟨a⟩⟩ := t
  obtain ⟨⟨c⟩⟩ := s
  simp at e2
  rw [e2]
theorem imap_drop {w : World} {b n : Nat} {f : ByteArray → Option Nat} (h : IMap w b n f) (s : ByteArray) (hs : s.size ≤ maxLen) (ty : TypeId) :
    ∃ w', (Builtin.delete_ #[119, 9] ty #[.map (some b), .string s]).run Tryz.prog w = .ok (.tuple #[]) w' ∧ IMap w' b n (fun t => if t = s then none else f t) ∧ w.grownBy w' (some b) := by
  obtain ⟨D, ⟨es, clock, hb, F, hn, rfl⟩, hD, hf⟩ := h
  have hkey := WideMaps.keyOf_string_mk (P := Tryz.prog) (k := 9) Tryz.underlying9 hs
  obtain ⟨es', hrun, F', hsz, hdel, _⟩ := fit_drop (ty := ty) (string_keyed Tryz.underlying9) Tryz.underlying119 hb F hkey
  refine ⟨_, hrun, ⟨_, ⟨es', clock, heap_setBlock_same hb _, F', Nat.le_trans hsz hn, rfl⟩, ⟨_, rfl⟩, ?_⟩, ⟨rfl, rfl, rfl, by simp [setBlock], fun i _ hi => heap_setBlock_other hb _ (fun e => hi (by rw [e]))⟩⟩
  rw [hdel]
  intro t
  dsimp only
  have hdd : (DataW.map (delKey (Lit.string s.data.toList) ((es.toList.map (rg Tryz.prog 9 (plainElem Tryz.prog 3))).foldr DataW.insert [])) : DataW Unit) = (DataW.map ((es.toList.map (rg Tryz.prog 9 (plainElem Tryz.prog 3))).foldr DataW.insert [])).del (Lit.string s.data.toList) := rfl
  rw [hdd]
  by_cases ht : t = s
  · subst ht
    rw [if_pos rfl]
    exact ⟨fun _ z => atKey_del_same z, fun j hj => by cases hj⟩
  · rw [if_neg ht]
    have hne := string_ne ht
    refine ⟨fun h z => ?_, fun j hj => ⟨((hf t).2 j hj).1, fun z => ?_⟩⟩
    · rw [atKey_del_other hne]; exact (hf t).1 h z
    · rw [atKey_del_other hne]; exact ((hf t).2 j hj).2 z
theorem imap_size {w : World} {b n : Nat} {f : ByteArray → Option Nat} (h : IMap w b n f) (L : List ByteArray) (hL : L.Nodup) (hs : ∀ s ∈ L, s.size ≤ maxLen) (hf : ∀ s ∈ L, f s ≠ none) : ∃ es clock, w.heap[b]? = some (.map es clock) ∧ L.length ≤ es.size ∧ es.size ≤ n := by
  obtain ⟨D, ⟨es, clock, hb, F, hn, rfl⟩, hD, hf2⟩ := h
  refine ⟨es, clock, hb, ?_, hn⟩
  have hsub : ∀ v ∈ L.map Value.string, v ∈ es.toList.map MapEntry.key := by
    intro v hv
    obtain ⟨s, hsL, rfl⟩ := List.mem_map.1 hv
    have hkey := WideMaps.keyOf_string_mk (P := Tryz.prog) (k := 9) Tryz.underlying9 (hs s hsL)
    rcases fit_look true (string_keyed Tryz.underlying9) Tryz.underlying119 (zero3 w) hb F hkey with ⟨hr, _, hz⟩ | ⟨e0, y, h1, h2, hr, hy, hz, _⟩
    · exfalso
      cases hc : f s with
      | none => exact hf s hsL hc
      | some i =>
        have h1 := ((hf2 s).2 i hc).2 .nil
        rw [hz .nil] at h1
        cases h1
    · exact List.mem_map.2 ⟨e0, h1, h2⟩
  have hnd : (L.map Value.string).Nodup := by
    rw [List.nodup_iff_pairwise_ne] at hL ⊢
    rw [List.pairwise_map]
    exact hL.imp (fun h e => h (by simpa using e))
  have := nodup_le _ _ hnd hsub
  simpa using this
end Go.Proofs.YtmicdbplkfdfnaaGreatDoor
/- Shape.apart, closeGaps where few are gaps. -/
set_option linter.unusedVariables false
namespace Go.Proofs.YtmicdbplkfdfnaaGreatDoor
open Go.RowKit Go.Shelf Go.Maps

set_option maxRecDepth 100000 in
set_option maxHeartbeats 2000000 in
theorem apartS_any (S N : Nat) (v m k fr nx kp : Value) (L : List ByteArray) (cnt : Nat) (w : World)
    (hS : w.heap[S]? = some (.cells #[.pointer (some ⟨N, 0, none⟩), .int .i64 (cnt : Int), fr, nx, .bool false, kp] 118 (0, 0)))
    (hN : w.heap[N]? = some (.cells #[v, m, k] 121 (0, 0))) (hrow : w.ownsRow 0 9 1 v L.length (L.map Value.string)) (hc : cnt ≤ L.length) (hL : L.length ≤ 1000) (hs : ∀ s ∈ L, s.size ≤ maxLen) :
    Calls Tryz.prog 86 #[.pointer (some ⟨S, 0, none⟩)] w fun e w' => ∃ S' N' M' v', e = .returned (.pointer (some ⟨S', 0, none⟩)) ∧ w.heap.size ≤ S' ∧ w.heap.size ≤ N' ∧ w.heap.size ≤ M' ∧ w'.heap[S']? = some (.cells #[.pointer (some ⟨N', 0, none⟩), .int .i64 (cnt : Int), .pointer none, .map none, .bool true, .bool false] 118 (0, 0)) ∧ NamesAt w' w.heap.size N' M' cnt v' (.int .i64 0) (L.take cnt) ∧ Kx [] w w' := by
  have cP : ∀ W, Kx [] w W → Calls Tryz.prog 119 #[.pointer (some ⟨N, 0, none⟩), .int .i64 (cnt : Int)] W fun e w' => ∃ N' M' v', e = .returned (.pointer (some ⟨N', 0, none⟩)) ∧ W.heap.size ≤ N' ∧ W.heap.size ≤ M' ∧ w'.heap[N']? = some (.cells #[v', .map (some M'), .int .i64 0] 121 (0, 0)) ∧ w'.ownsRow W.heap.size 9 1 v' cnt ((L.take cnt).map Value.string) ∧ IMap w' M' cnt (pf (L.take cnt)) ∧ Below W.heap.size W w' := fun W hW => part_any N v m k L cnt W 0 (hW.get hN (by simp)) (hW.owns hrow (fun g hg => by simp)) hc hL hs
  have CP := (show Hid _ from cP)
  have c0 := cell_at hS 0 rfl
  have c1 := cell_at hS 1 rfl
  have c4 := cell_at hS 4 rfl
  clear cP hN hrow hS
  go_enter Tryz.func86, Tryz.ntmps86
  go_wp2
  go_region_law (first | (go_simp; go_at_call 119; refine (CP.out _ (Kx.drew _ _)).mono ?_; rintro e w1 ⟨N', M', v', rfl, g1, g2, g3, g4, g5, g6⟩; obtain ⟨a1, c5, rfl⟩ := owns_slice g4; have cA := alone_any N' cnt c5 a1 _ _ w1 g3; have HG : Hid (w.heap.size ≤ N' ∧ w.heap.size ≤ M' ∧ NamesAt w1 w.heap.size N' M' cnt (.slice a1 cnt c5) (.int .i64 0) (L.take cnt) ∧ Kx [] w w1) := (show _ ∧ _ ∧ _ ∧ _ from ⟨g1, g2, ⟨g3, by rw [List.length_take, Nat.min_eq_left hc]; exact g4, g5⟩, (Kx.drew [] w).same (Kx.ofBelow g6 [])⟩); clear g1 g2 g3 g4 g5 g6) | (go_simp; go_at_call 117; refine cA.mono ?_; rintro e w2 ⟨rfl, rfl⟩))
  all_goals
    go_wp2
    go_ret
    obtain ⟨g1, g2, g3, g4⟩ := HG.out
    exact ⟨w1.heap.size, N', M', _, rfl, g4.size, g1, g2, heap_alloc_new _ _, g3.kept (Kx.alloc [] _ _) (by simp) (by simp) (by simp), g4.alc _⟩
set_option maxRecDepth 100000 in
set_option maxHeartbeats 2000000 in
theorem gaps_few (b S N M n cnt : Nat) (a : Option Addr) (c : Nat) (k ct fr nx al kp cl pr fx inn num nv rw st kp2 : Value) (es : Array MapEntry) (clock : Nat) (w : World)
    (hB : w.heap[b]? = some (.cells #[cl, pr, fx, inn, num, .pointer (some ⟨S, 0, none⟩), nv, rw, st, kp2] 111 (0, 0)))
    (hS : w.heap[S]? = some (.cells #[.pointer (some ⟨N, 0, none⟩), ct, fr, nx, al, kp] 118 (0, 0)))
    (hN : w.heap[N]? = some (.cells #[.slice a cnt c, .map (some M), k] 121 (0, 0))) (hM : w.heap[M]? = some (.map es clock)) (h1 : cnt ≤ 1000) (h2 : es.size ≤ 1000) (h3 : cnt ≤ 2 * es.size + 8) :
    Calls Tryz.prog 112 #[.pointer (some ⟨b, 0, none⟩)] w fun e w' => (∃ u, e = .returned u) ∧ ∃ q, w' = w.drewN q := by
  have b5 := cell_at hB 5 rfl
  have s0 := cell_at hS 0 rfl
  have n0 := cell_at hN 0 rfl
  have n1 := cell_at hN 1 rfl
  have hl : ∀ q, (Builtin.len_ #[119] 3 #[.map (some M)]).run Tryz.prog (w.drewN q) = .ok (.int .i64 (es.size : Int)) (w.drewN q) := fun q => run_len_map _ _ _ _ _ _ (by rw [Tryz.underlying119]; rfl) (show (w.drewN q).heap[M]? = _ from hM)
  have v1 : IntKind.i64.wrap (2 * (es.size : Int)) = 2 * (es.size : Int) := by rw [IntKind.wrap_i64]; omega
  have v2 : IntKind.i64.wrap (2 * (es.size : Int) + 8) = 2 * (es.size : Int) + 8 := by rw [IntKind.wrap_i64]; omega
  have hle : (cnt : Int) ≤ 2 * (es.size : Int) + 8 := by omega
  clear hB hS hN hM
  go_enter Tryz.func112, Tryz.ntmps112
  go_wp2
  go_quiet (fail)
  go_wp2
  refine bodyPost_ret (results_none rfl _ _ _) rfl ?_
  exact ⟨⟨_, rfl⟩, _, rfl⟩
end Go.Proofs.YtmicdbplkfdfnaaGreatDoor
/- Object.remove of a name. -/
set_option linter.unusedVariables false
namespace Go.Proofs.YtmicdbplkfdfnaaGreatDoor
open Go.RowKit Go.Shelf Go.Maps
attribute [local go_sem] run_store_flt

theorem filter_ne_len (nm : ByteArray) : ∀ (L : List ByteArray), L.Nodup → L.length ≤ (L.filter (fun t => decide (t ≠ nm))).length + 1
  | [], _ => by simp
  | x :: l, h => by
    have h1 := List.nodup_cons.1 h
    by_cases e : x = nm
    · have : l.filter (fun t => decide (t ≠ nm)) = l := List.filter_eq_self.2 (fun t ht => by
        simp
        intro e2
        exact h1.1 (by rw [e, ← e2]; exact ht))
      rw [List.filter_cons_of_neg (by simp [e]), this]
      simp
    · rw [List.filter_cons_of_pos (by simp [e])]
      have := filter_ne_len nm l h1.2
      simp only [List.length_cons]
      omega
set_option maxRecDepth 100000 in
set_option maxHeartbeats 2000000 in
theorem remove_name (b S i n g cap cnt : Nat) (nm : ByteArray) (pl : Int) (cl pr fx inn num rw st kp : Value) (xs : List Value) (L : List ByteArray) (w : World)
    (hB : w.heap[b]? = some (.cells #[cl, pr, fx, inn, num, .pointer (some ⟨S, 0, none⟩), .slice (some ⟨g, 0, none⟩) n cap, rw, st, kp] 111 (0, 0)))
    (hrow : w.ownsRow 0 75 10 (.slice (some ⟨g, 0, none⟩) n cap) n xs) (hi : i < n) (hn : n ≤ 1000) (hnm : nm.size ≤ maxLen) (hL : L.Nodup) (hLs : ∀ x ∈ L, x.size ≤ maxLen) (hLc : L.length = cnt) (hcn : cnt ≤ 1000)
    (cf : ∀ W, Kx [] w W → Calls Tryz.prog 51 #[.pointer (some ⟨S, 0, none⟩), .string nm] W fun e w' => e = .returned (.tuple #[.int .i64 (i : Int), .bool true]) ∧ ∃ q, w' = W.drewN q)
    (ca : ∀ W, Kx [] w W → Calls Tryz.prog 86 #[.pointer (some ⟨S, 0, none⟩)] W fun e w' => ∃ S' N' M' v', e = .returned (.pointer (some ⟨S', 0, none⟩)) ∧ W.heap.size ≤ S' ∧ W.heap.size ≤ N' ∧ W.heap.size ≤ M' ∧ w'.heap[S']? = some (.cells #[.pointer (some ⟨N', 0, none⟩), .int .i64 (cnt : Int), .pointer none, .map none, .bool true, .bool false] 118 (0, 0)) ∧ NamesAt w' W.heap.size N' M' cnt v' (.int .i64 0) L ∧ Kx [] W w') :
    Calls Tryz.prog 82 #[.pointer (some ⟨b, 0, none⟩), .agg #[.string nm, .int .u32 pl, .bool false]] w fun e w' => (∃ u, e = .returned u) ∧ ∃ S' C', w.heap.size ≤ S' ∧ w'.heap[b]? = some (.cells #[cl, pr, fx, inn, num, .pointer (some ⟨S', 0, none⟩), .slice (some ⟨g, 0, none⟩) n cap, rw, st, kp] 111 (0, 0)) ∧ w'.heap[S']? = some (.cells C' 118 (0, 0)) ∧ C'[4]? = some (.bool true) ∧ Kx [b, g] w w' := by
  obtain ⟨W0, hW0⟩ : ∃ W0, W0 = w.alloc (Obj.cells #[.string nm, .int .u32 pl, .bool false] 67) := ⟨_, rfl⟩
  have hk0 : Kx [] w W0 := by rw [hW0]; exact Kx.alloc _ _ _
  have hB0 := hk0.get hB (by simp)
  have hK0 : W0.heap[w.heap.size]? = some (Obj.cells #[.string nm, .int .u32 pl, .bool false] 67 (0, 0)) := by rw [hW0]; exact heap_alloc_new _ _
  have hbl := lt_get hB
  have HB0 := (show Hid _ from hB0)
  have HK0 := (show Hid _ from hK0)
  have HKX : Hid (Kx [] w W0) := (show Kx [] w W0 from hk0)
  have HRWB : Hid (w.heap[b]? = some (.cells #[cl, pr, fx, inn, num, .pointer (some ⟨S, 0, none⟩), .slice (some ⟨g, 0, none⟩) n cap, rw, st, kp] 111 (0, 0))) := hB
  have CF := (show Hid _ from cf)
  have CA := (show Hid _ from ca)
  have HRW : Hid (w.ownsRow 0 75 10 (.slice (some ⟨g, 0, none⟩) n cap) n xs) := hrow
  have HLL := (show Hid _ from And.intro hL hLs)
  have b5 := cell_at hB0 5 rfl
  have k0 := cell_at hK0 0 rfl
  have k2 := cell_at hK0 2 rfl
  rw [hW0] at b5 k0 k2
  clear hB hB0 hK0 hk0 cf ca hrow hL hLs
  go_enter Tryz.func82, Tryz.ntmps82
  go_wp2
  rw [← hW0] at b5 k0 k2 ⊢
  clear hW0
  go_quiet (first | (go_at_call 51; exact Calls.quiet_of (CF.out _ (HKX.out.drw _))))
  have HB1 : Hid ((W0.drewN nq).heap[b]? = some (.cells #[cl, pr, fx, inn, num, .pointer (some ⟨S, 0, none⟩), .slice (some ⟨g, 0, none⟩) n cap, rw, st, kp] 111 (0, 0))) := HB0
  have HK1 : Hid ((W0.drewN nq).heap[w.heap.size]? = some (Obj.cells #[.string nm, .int .u32 pl, .bool false] 67 (0, 0))) := HK0
  have HW1 : Hid (Kx [] w (W0.drewN nq)) := (show Kx [] w (W0.drewN nq) from HKX.out.drw nq)
  clear b5 k0 k2 HB0 HK0 HKX CF
  obtain ⟨w1, hw1⟩ : ∃ w1, w1 = W0.drewN nq := ⟨_, rfl⟩
  rw [← hw1] at HB1 HK1 HW1 ⊢
  clear hw1
  have b5 := cell_at HB1.out 5 rfl
  go_wp2_with (first | (go_at_call 86; fail))
  refine (CA.out w1 HW1.out).mono ?_
  rintro e w2 ⟨S', N', M', v', rfl, g1, g2, g3, g4, g5, g6⟩
  have hsz := HW1.out.size
  have hB2 := g6.get HB1.out (by simp)
  have HK2 : Hid (w2.heap[w.heap.size]? = some (Obj.cells #[.string nm, .int .u32 pl, .bool false] 67 (0, 0))) := g6.get HK1.out (by simp)
  have HW2 : Hid (Kx [] w w2) := (show Kx [] w w2 from HW1.out.same g6)
  have hltk := lt_get HK1.out
  have z5 := cell_at hB2 5 rfl
  have y5 := fr_all hB2 5
  obtain ⟨W3, hW3⟩ : ∃ W3, W3 = w2.setCell ⟨b, 5, none⟩ (.pointer (some ⟨S', 0, none⟩)) := ⟨_, rfl⟩
  have hk3 : Kx [b] w2 W3 := by rw [hW3]; exact Kx.setCell _ (by simp) _
  have HB3 : Hid (W3.heap[b]? = some (.cells #[cl, pr, fx, inn, num, .pointer (some ⟨S', 0, none⟩), .slice (some ⟨g, 0, none⟩) n cap, rw, st, kp] 111 (0, 0))) := by rw [hW3]; exact heap_set_at hB2 5 _ rfl
  have HS3 : Hid (W3.heap[S']? = some (.cells #[.pointer (some ⟨N', 0, none⟩), .int .i64 (cnt : Int), .pointer none, .map none, .bool true, .bool false] 118 (0, 0))) := hk3.get g4 (by simp; omega)
  have HN3 : Hid (NamesAt W3 w1.heap.size N' M' cnt v' (.int .i64 0) L) := g5.kept hk3 (by simp; omega) (by simp; omega) (fun q hq => by have := (g5.2.1.lt q hq).1; simp; omega)
  have HK3 : Hid (W3.heap[w.heap.size]? = some (Obj.cells #[.string nm, .int .u32 pl, .bool false] 67 (0, 0))) := hk3.get HK2.out (by simp; omega)
  have HW3 : Hid (Kx [b] w W3) := (show Kx [b] w W3 from (HW2.out.mono (fun i hi => by cases hi)).same hk3)
  have HG : Hid (w.heap.size ≤ S' ∧ b < w.heap.size ∧ w.heap.size ≤ M' ∧ w.heap.size ≤ N') := (show _ ∧ _ ∧ _ ∧ _ from ⟨by omega, hbl, by omega, by omega⟩)
  clear g1 g2 g3 g4 g5 g6 hB2 hk3 HB1 HK1 HW1 CA b5 HK2 HW2
  go_wp2
  rw [← hW3]
  clear hW3 z5 y5
  obtain ⟨w4, hdel, hm4, hg4⟩ := imap_drop (w := W3.drew) (show IMap W3.drew M' cnt (pf L) from HN3.out.2.2) nm hnm 0
  have hk4 : Kx [M'] W3 w4 := (Kx.drew [M'] W3).trans (Kx.grown hg4) (fun i hi => .inl (by simp at hi; simp [hi]))
  have hMb : b ≠ M' := imap_cells HN3.out.2.2 HB3.out
  have hMS : S' ≠ M' := imap_cells HN3.out.2.2 HS3.out
  have hMN : N' ≠ M' := imap_cells HN3.out.2.2 HN3.out.1
  have hMK : w.heap.size ≠ M' := imap_cells HN3.out.2.2 HK3.out
  have HB4 : Hid (w4.heap[b]? = some (.cells #[cl, pr, fx, inn, num, .pointer (some ⟨S', 0, none⟩), .slice (some ⟨g, 0, none⟩) n cap, rw, st, kp] 111 (0, 0))) := hk4.get HB3.out (by simp; exact hMb)
  have HS4 : Hid (w4.heap[S']? = some (.cells #[.pointer (some ⟨N', 0, none⟩), .int .i64 (cnt : Int), .pointer none, .map none, .bool true, .bool false] 118 (0, 0))) := hk4.get HS3.out (by simp; exact hMS)
  have HN4 : Hid (w4.heap[N']? = some (.cells #[v', .map (some M'), .int .i64 0] 121 (0, 0))) := hk4.get HN3.out.1 (by simp; exact hMN)
  have HK4 := hk4.get HK3.out (by simp; exact hMK)
  have a0 := cell_at HB3.out 5 rfl
  have a1 := cell_at HS3.out 0 rfl
  have a2 := cell_at HN3.out.1 1 rfl
  have a3 := cell_at HK3.out 0 rfl
  have b0 := cell_at HB4.out 5 rfl
  have b1 := cell_at HS4.out 0 rfl
  have b2 := cell_at HN4.out 1 rfl
  have b3 := cell_at HK4 0 rfl
  have HM4 := (show Hid _ from hm4)
  have HK34 : Hid (Kx [M'] W3 w4) := (show Kx [M'] W3 w4 from hk4)
  clear hm4 hg4 hk4 HK4 hMb hMS hMN hMK
  go_region_held3 (fun Z : World => Z.cell? ⟨b, 5, none⟩ = some (.pointer (some ⟨S', 0, none⟩)) ∧ Z.cell? ⟨S', 0, none⟩ = some (.pointer (some ⟨N', 0, none⟩)) ∧ Z.cell? ⟨N', 1, none⟩ = some (.map (some M')) ∧ Z.cell? ⟨w.heap.size, 0, none⟩ = some (.string nm)) (first | exact ⟨a0, a1, a2, a3⟩ | exact ⟨b0, b1, b2, b3⟩) (fail)
  clear a0 a1 a2 a3 b0 b1 b2 b3 hdel
  obtain ⟨cur, hgw, hcz⟩ : ∃ cur, w.heap[g]? = some (.cells cur 75 (0, 0)) ∧ n * 10 ≤ cur.size := by
    rcases HRW.out.2 with ⟨e, h0⟩ | ⟨g', cap', cur, e, _, hgg, h1, _, h2, _⟩
    · cases e
    · simp only [Value.slice.injEq, Option.some.injEq, Addr.mk.injEq] at e
      obtain ⟨⟨rfl, _⟩, _, rfl⟩ := e
      exact ⟨cur, hgg, by omega⟩
  have hgl := lt_get hgw
  have hgM : g ≠ M' := by have := HG.out.2.2.1; omega
  have hbg : b ≠ g := by
    intro e
    have h1 := HW3.out.block g hgl
    have h2 := HB3.out
    by_cases hb2 : g ∈ [b]
    · simp at hb2
      have h3 := HRWB.out
      rw [e, hgw] at h3
      simp at h3
    · exact hb2 (by simp [e])
  have hg4 : w4.heap[g]? = some (.cells cur 75 (0, 0)) := HK34.out.get (HW3.out.get hgw (by simp; exact fun e => hbg e.symm)) (by simp; exact hgM)
  have hcell : ∀ j, j < n * 10 → ∃ u, w4.cell? ⟨g, j, none⟩ = some u := fun j hj => ⟨cur[j]'(by omega), cell_at hg4 j (Array.getElem?_eq_getElem _)⟩
  obtain ⟨c0, e0⟩ := hcell (i * 10) (by omega)
  have f0 := fr_all hg4 (i * 10)
  obtain ⟨c1, e1⟩ := hcell (i * 10 + 1) (by omega)
  have f1 := fr_all hg4 (i * 10 + 1)
  obtain ⟨c2, e2⟩ := hcell (i * 10 + 2) (by omega)
  have f2 := fr_all hg4 (i * 10 + 2)
  obtain ⟨c3, e3⟩ := hcell (i * 10 + 3) (by omega)
  have f3 := fr_all hg4 (i * 10 + 3)
  obtain ⟨c4, e4⟩ := hcell (i * 10 + 4) (by omega)
  have f4 := fr_all hg4 (i * 10 + 4)
  obtain ⟨c5, e5⟩ := hcell (i * 10 + 5) (by omega)
  have f5 := fr_all hg4 (i * 10 + 5)
  obtain ⟨c6, e6⟩ := hcell (i * 10 + 6) (by omega)
  have f6 := fr_all hg4 (i * 10 + 6)
  obtain ⟨c7, e7⟩ := hcell (i * 10 + 7) (by omega)
  have f7 := fr_all hg4 (i * 10 + 7)
  obtain ⟨c8, e8⟩ := hcell (i * 10 + 8) (by omega)
  have f8 := fr_all hg4 (i * 10 + 8)
  obtain ⟨c9, e9⟩ := hcell (i * 10 + 9) (by omega)
  have f9 := fr_all hg4 (i * 10 + 9)
  have b6 := cell_at HB4.out 6 rfl
  obtain ⟨w5, hw5⟩ : ∃ w5, w5 = ((((((((((w4.setCell ⟨g, i * 10, none⟩ (.bool false)).setCell ⟨g, i * 10 + 1, none⟩ (.bool false)).setCell ⟨g, i * 10 + 2, none⟩ (.bool false)).setCell ⟨g, i * 10 + 3, none⟩ (.bool false)).setCell ⟨g, i * 10 + 4, none⟩ (.int .i64 0)).setCell ⟨g, i * 10 + 5, none⟩ (.float .f64 0)).setCell ⟨g, i * 10 + 6, none⟩ (.string ⟨#[]⟩)).setCell ⟨g, i * 10 + 7, none⟩ (.pointer none)).setCell ⟨g, i * 10 + 8, none⟩ (.pointer none)).setCell ⟨g, i * 10 + 9, none⟩ (.pointer none)) := ⟨_, rfl⟩
  have hk5 : Kx [g] w4 w5 := by rw [hw5]; exact (((((((((((Kx.refl [g] w4).set (by simp) _).set (by simp) _).set (by simp) _).set (by simp) _).set (by simp) _).set (by simp) _).set (by simp) _).set (by simp) _).set (by simp) _).set (by simp) _)
  have HK5 : Hid (Kx [g] w4 w5) := (show Kx [g] w4 w5 from hk5)
  have HBG : Hid (b ≠ g) := (show b ≠ g from hbg)
  clear hcell hg4 hk5 hgw hcz hbg hgM
  go_wp2_with (first | (go_at_call 112; fail))
  rw [← hw5]
  clear hw5 e0 f0 e1 f1 e2 f2 e3 f3 e4 f4 e5 f5 e6 f6 e7 f7 e8 f8 e9 f9 b6
  have hgM : g ≠ M' := by have := HG.out.2.2.1; omega
  have hgN : g ≠ N' := by have := HG.out.2.2.2; omega
  have hgS : g ≠ S' := by have := HG.out.1; omega
  have hB5 := HK5.out.get HB4.out (by simp; exact HBG.out)
  have hS5 := HK5.out.get HS4.out (by simp; exact fun e => hgS e.symm)
  have hN5 := HK5.out.get HN4.out (by simp; exact fun e => hgN e.symm)
  have hM5 := HK5.out.imap HM4.out (by simp; exact fun e => hgM e.symm)
  obtain ⟨es, clock, hes, hz1, hz2⟩ := imap_size hM5 (L.filter (fun t => decide (t ≠ nm))) (HLL.out.1.filter _) (fun x hx => HLL.out.2 x (List.mem_filter.1 hx).1) (fun x hx => by
    have h1 := List.mem_filter.1 hx
    have h2 : x ≠ nm := by simpa using h1.2
    obtain ⟨q, hq⟩ := List.getElem?_of_mem h1.1
    simp only [if_neg h2, (pf_get _ L rfl HLL.out.1 x q).2 hq]
    simp)
  have hz3 := filter_ne_len nm L HLL.out.1
  obtain ⟨a5, c5, hv5⟩ := owns_slice HN3.out.2.1
  rw [hv5, hLc] at hN5
  have cG := gaps_few b S' N' M' cnt cnt a5 c5 _ _ _ _ _ _ _ _ _ _ _ _ _ _ _ es clock w5 hB5 hS5 hN5 hes hcn (by omega) (by omega)
  have HH : Hid (w5.heap[b]? = some (.cells #[cl, pr, fx, inn, num, .pointer (some ⟨S', 0, none⟩), .slice (some ⟨g, 0, none⟩) n cap, rw, st, kp] 111 (0, 0)) ∧ w5.heap[S']? = some (.cells #[.pointer (some ⟨N', 0, none⟩), .int .i64 (cnt : Int), .pointer none, .map none, .bool true, .bool false] 118 (0, 0)) ∧ Kx [b, g] w w5) := (show _ ∧ _ ∧ _ from ⟨hB5, hS5, ((HW3.out.mono (S := [b, g]) (fun i hi => .inl (by simp at hi; simp [hi]))).trans HK34.out (fun i hi => .inr (by simp at hi; have := HG.out.2.2.1; omega))).trans HK5.out (fun i hi => .inl (by simp at hi; simp [hi]))⟩)
  clear hB5 hS5 hN5 hM5 hes hv5
  refine cG.mono ?_
  rintro e w6 ⟨⟨u, rfl⟩, qq, rfl⟩
  go_wp2
  refine bodyPost_end (results_none rfl _ _ _) rfl ?_
  exact ⟨⟨_, rfl⟩, S', _, HG.out.1, HH.out.1, HH.out.2.1, rfl, HH.out.2.2.drw qq⟩
end Go.Proofs.YtmicdbplkfdfnaaGreatDoor
/- Delete of a name. -/
set_option linter.unusedVariables false
namespace Go.Proofs.YtmicdbplkfdfnaaGreatDoor
open Go.RowKit Go.Shelf Go.Maps
attribute [local go_sem] run_store_flt

set_option maxRecDepth 100000 in
set_option maxHeartbeats 2000000 in
theorem delete_obj (b : Nat) (nm : ByteArray) (pl : Int) (p0 p1 : Bool) (k : Int) (x : Nat) (tx : ByteArray) (p7 p8 p9 : Option Addr) (R : World → Prop) (w : World)
    (cO : ∀ W, Kx [] w W → Calls Tryz.prog 25 #[.pointer (some ⟨b, 0, none⟩), .agg #[.string nm, .int .u32 pl, .bool false]] W fun e w' => e = .returned (.tuple #[.agg #[.bool p0, .bool p1, .bool true, .bool false, .int .i64 k, .float .f64 x, .string tx, .pointer p7, .pointer p8, .pointer p9], .bool true]) ∧ Kx [] W w')
    (cR : ∀ W, Kx [] w W → Calls Tryz.prog 82 #[.pointer (some ⟨b, 0, none⟩), .agg #[.string nm, .int .u32 pl, .bool false]] W fun e w' => (∃ u, e = .returned u) ∧ R w') :
    Calls Tryz.prog 56 #[.pointer (some ⟨b, 0, none⟩), .agg #[.string nm, .int .u32 pl, .bool false]] w fun e w' => e = .returned .nilIface ∧ R w' := by
  obtain ⟨W0, hW0⟩ : ∃ W0, W0 = w.alloc (Obj.cells #[.string nm, .int .u32 pl, .bool false] 67) := ⟨_, rfl⟩
  have HK0 : Hid (Kx [] w W0) := by rw [hW0]; exact (show Kx [] w _ from Kx.alloc _ _ _)
  have HB0 : Hid (W0.heap[w.heap.size]? = some (Obj.cells #[.string nm, .int .u32 pl, .bool false] 67 (0, 0))) := by rw [hW0]; exact heap_alloc_new _ _
  have CO := (show Hid _ from cO)
  have CR := (show Hid _ from cR)
  clear cO cR
  go_enter Tryz.func56, Tryz.ntmps56
  go_wp2_with (first | (go_at_call 25; fail))
  rw [← hW0]
  clear hW0
  refine (CO.out W0 HK0.out).mono ?_
  rintro e w1 ⟨rfl, hk1⟩
  obtain ⟨W1, hW1⟩ : ∃ W1, W1 = w1.alloc (Obj.cells #[.bool p0, .bool p1, .bool true, .bool false, .int .i64 k, .float .f64 x, .string tx, .pointer p7, .pointer p8, .pointer p9] 75) := ⟨_, rfl⟩
  have HK1 : Hid (Kx [] w W1) := by rw [hW1]; exact (show Kx [] w _ from (HK0.out.same hk1).alc _)
  have HB1 : Hid (W1.heap[w.heap.size]? = some (Obj.cells #[.string nm, .int .u32 pl, .bool false] 67 (0, 0))) := by rw [hW1]; exact heap_old (hk1.get HB0.out (by simp)) _
  have y0 := cell_at HB1.out 0 rfl
  have y1 := cell_at HB1.out 1 rfl
  have y2 := cell_at HB1.out 2 rfl
  rw [hW1] at y0 y1 y2
  clear hk1 HB0 HK0 CO
  go_wp2_with (first | (go_at_call 82; fail))
  rw [← hW1]
  refine (CR.out W1 HK1.out).mono ?_
  rintro e w2 ⟨⟨u, rfl⟩, hR⟩
  have HR := (show Hid (R w2) from hR)
  clear y0 y1 y2 hW1 HK1 HB1 CR hR
  go_wp2
  go_ret
  exact ⟨rfl, HR.out⟩
set_option maxRecDepth 100000 in
set_option maxHeartbeats 2000000 in
theorem delete_face (O H b : Nat) (l : List Nat) (r : Int) (s nm : ByteArray) (pl : Int) (isP : Bool) (R : World → Prop) (w : World)
    (hO : w.cell? ⟨O, 0, none⟩ = some (.pointer (some ⟨H, 0, none⟩))) (hH : Objs w H l) (hr1 : 1 ≤ r) (hr : l[(r - 1).toNat]? = some b)
    (cK : ∀ W, Kx [] w W → Calls Tryz.prog 26 #[.string s] W fun e w' => e = .returned (.agg #[.string nm, .int .u32 pl, .bool isP]) ∧ Kx [] W w')
    (cD : ∀ W, Kx [] w W → Calls Tryz.prog 56 #[.pointer (some ⟨b, 0, none⟩), .agg #[.string nm, .int .u32 pl, .bool isP]] W fun e w' => e = .returned .nilIface ∧ R w') :
    Calls Tryz.prog 28 #[.pointer (some ⟨O, 0, none⟩), .int .i64 r, .string s] w fun e w' => e = .returned .nilIface ∧ R w' := by
  have c1 := numbered_any H l r w hH
  rw [objP_hit hr1 hr] at c1
  have CK := (show Hid _ from cK)
  have CD := (show Hid _ from cD)
  clear cK cD hH hr1 hr
  go_enter Tryz.func28, Tryz.ntmps28
  go_wp2_with (first | (go_at_call 21; refine c1.mono ?_; rintro e w1 ⟨rfl, rfl⟩) | (go_at_call 26; refine (CK.out _ (Kx.refl _ _)).mono ?_; rintro e w2 ⟨rfl, hk⟩) | (go_at_call 56; refine (CD.out _ hk).mono ?_; rintro e w3 ⟨rfl, hR⟩))
  go_ret
  exact ⟨rfl, hR⟩
set_option maxRecDepth 100000 in
set_option maxHeartbeats 2000000 in
theorem delete_plain (O : Nat) (r : Int) (s : ByteArray) (R : World → Prop) (w : World)
    (cD : Calls Tryz.prog 28 #[.pointer (some ⟨O, 0, none⟩), .int .i64 r, .string s] w fun e w' => e = .returned .nilIface ∧ R w') :
    Calls Tryz.prog 12 #[.pointer (some ⟨O, 0, none⟩), .int .i64 r, .string s] w fun e w' => e = .returned (.int .i64 0) ∧ ∃ W, R W ∧ Kx [] W w' := by
  have c2 := number_nil
  go_enter Tryz.func12, Tryz.ntmps12
  go_wp2_with (first | (go_at_call 28; refine cD.mono ?_; rintro e w1 ⟨rfl, hR⟩) | (go_at_call 19; refine (c2 _).mono ?_; rintro e w2 ⟨rfl, hk⟩))
  go_ret
  exact ⟨rfl, w1, hR, hk⟩
end Go.Proofs.YtmicdbplkfdfnaaGreatDoor
/- heap.Object.Define: a name comes to an object that is no Array, a value and all flags told. -/
set_option linter.unusedVariables false
namespace Go.Proofs.YtmicdbplkfdfnaaGreatDoor
open Go.RowKit Go.Shelf Go.Maps

theorem define_new (b : Nat) (nm C : ByteArray) (pl : Int) (p0 p1 p2 : Bool) (p4 : Int) (p5 : Nat) (p6 : ByteArray) (p7 : Option Addr) (T : List Nat) (R : World → Prop) (w : World) (hT : ∀ i ∈ T, i < w.heap.size)
    (h0 : ∀ W, Kx [] w W → W.cell? ⟨b, 0, none⟩ = some (.string C)) (hC : (C.toList == [65, 114, 114, 97, 121]) = false)
    (cO : ∀ W, Kx [] w W → Calls Tryz.prog 25 #[.pointer (some ⟨b, 0, none⟩), .agg #[.string nm, .int .u32 pl, .bool false]] W fun e w' => e = .returned (.tuple #[noP, .bool false]) ∧ Kx [] W w')
    (cT : ∀ W, Kx [] w W → Calls Tryz.prog 68 #[.pointer (some ⟨b, 0, none⟩), .agg #[.string nm, .int .u32 pl, .bool false]] W fun e w' => e = .returned (.bool true) ∧ Kx [] W w')
    (cS : ∀ W, Kx [] w W → Calls Tryz.prog 59 #[.pointer (some ⟨b, 0, none⟩), .agg #[.string nm, .int .u32 pl, .bool false], .agg #[.bool p0, .bool p1, .bool p2, .bool false, .int .i64 p4, .float .f64 p5, .string p6, .pointer p7, .pointer none, .pointer none]] W fun e w' => (∃ u, e = .returned u) ∧ Kx T W w' ∧ w'.cell? ⟨b, 0, none⟩ = some (.string C) ∧ R w') :
    Calls Tryz.prog 41 #[.pointer (some ⟨b, 0, none⟩), .agg #[.string nm, .int .u32 pl, .bool false], .agg #[.bool p0, .bool p1, .bool p2, .bool false, .int .i64 p4, .float .f64 p5, .string p6, .pointer p7, .pointer none, .pointer none, .bool true, .bool false, .bool false, .bool true, .bool true, .bool true]] w fun e w' => e = .returned .nilIface ∧ ∃ W q, R W ∧ w' = W.drewN q := by
  refine (define_newN b C nm pl p0 p1 p2 true true true true p4 p5 p6 p7 false false false p0 p1 p2 0 p4 0 p5 ⟨#[]⟩ p6 none p7 T (fun W => W.cell? ⟨b, 0, none⟩ = some (.string C) ∧ R W) w (h0 w (Kx.refl _ _)) hC hT cO cT
    (fun W hW => with_all false false false p0 p1 p2 false 0 p4 0 p5 ⟨#[]⟩ p6 none none none p7 none none W) cS (fun W hR => length_no b C W hR.1 hC)).mono ?_
  rintro e w' ⟨rfl, W, q, hR, rfl⟩
  exact ⟨rfl, W, q, hR.2, rfl⟩
end Go.Proofs.YtmicdbplkfdfnaaGreatDoor
/- The state of a heap whose objects have names alone. -/
set_option linter.unusedVariables false
namespace Go.Proofs.YtmicdbplkfdfnaaGreatDoor
open Go.RowKit Go.Shelf Go.Maps

theorem flatS_get {α : Type} (f : α → List Value) (n : Nat) (hf : ∀ a, (f a).length = n) : ∀ (vs : List α) (j : Nat) (a : α) (t : Nat), vs[j]? = some a → t < n → (vs.flatMap f)[j * n + t]? = (f a)[t]?
  | [], j, a, t, h, _ => by simp at h
  | b :: vs, 0, a, t, h, ht => by
    simp at h
    subst h
    rw [List.flatMap_cons, Nat.zero_mul, Nat.zero_add, List.getElem?_append_left (by rw [hf]; exact ht)]
  | b :: vs, j + 1, a, t, h, ht => by
    have ih := flatS_get f n hf vs j a t (by simpa using h) ht
    rw [List.flatMap_cons, List.getElem?_append_right (by rw [hf, Nat.add_mul]; omega), hf, show (j + 1) * n + t - n = j * n + t by rw [Nat.add_mul]; omega]
    exact ih
/-- A value: its kind, number, text. -/
abbrev Vl : Type := Int × Nat × ByteArray
def propL (v : Vl) : List Value := [.bool true, .bool true, .bool true, .bool false, .int .i64 v.1, .float .f64 v.2.1, .string v.2.2, .pointer none, .pointer none, .pointer none]
def propsL (vs : List Vl) : List Value := vs.flatMap propL
theorem propsL_snoc (vs : List Vl) (v : Vl) : propsL (vs ++ [v]) = propsL vs ++ propL v := by simp [propsL]
/-- An object: its block, its shape, the steps that led to it, its properties' list and values. -/
structure Og where
  b : Nat
  S : Nat
  path : List Stp
  nv : Value
  vs : List Vl
def objC : ByteArray := ⟨#[79, 98, 106, 101, 99, 116]⟩
def obV (num : Int) (S : Nat) (nv : Value) : Array Value := #[.string objC, .pointer none, .bool false, .nilIface, .int .i64 num, .pointer (some ⟨S, 0, none⟩), nv, .slice none 0 0, .map none, .bool false]
structure HSt (w : World) (n0 O H : Nat) (hv : Value) (S0 B : Nat) (F : List Nat) (ps : List (Nat × List Stp)) (os : List Og) : Prop where
  face : w.heap[O]? = some (.cells #[.pointer (some ⟨H, 0, none⟩)] 54 (0, 0))
  heap : w.heap[H]? = some (.cells #[hv, .int .i64 (os.length : Int), .int .i64 0, .int .i64 0, .pointer (some ⟨S0, 0, none⟩), .int .i64 0, .int .i64 0] 91 (0, 0))
  row : w.ownsRow n0 61 1 hv os.length ((os.map Og.b).map ptrV)
  obj : ∀ (i : Nat) (o : Og), os[i]? = some o → w.heap[o.b]? = some (.cells (obV ((i : Int) + 1) o.S o.nv) 111 (0, 0)) ∧ (o.S, o.path) ∈ ps ∧ w.ownsRow n0 75 10 o.nv o.path.length (propsL o.vs) ∧ o.vs.length = o.path.length ∧ n0 ≤ o.b
  tree : Tree w B F ps
  root : (S0, []) ∈ ps
  dB : ∀ (i j : Nat) (o o' : Og), os[i]? = some o → os[j]? = some o' → o.b = o'.b → i = j
  dR : ∀ (i j : Nat) (o o' : Og) (g : Nat), os[i]? = some o → os[j]? = some o' → o.nv.ownBlock = some g → o'.nv.ownBlock = some g → i = j
  fO : O ∉ F
  fH : H ∉ F
  fV : ∀ g, hv.ownBlock = some g → g ∉ F
  fB : ∀ (i : Nat) (o : Og), os[i]? = some o → o.b ∉ F
  fR : ∀ (i : Nat) (o : Og), os[i]? = some o → ∀ g, o.nv.ownBlock = some g → g ∉ F
  hi : ∀ i ∈ F, n0 ≤ i
  hH : n0 ≤ H
  len : os.length ≤ 100
  n0w : n0 ≤ w.heap.size
theorem HSt.kept0 {w w' : World} {n0 O H : Nat} {hv : Value} {S0 B : Nat} {F : List Nat} {ps : List (Nat × List Stp)} {os : List Og} (h : HSt w n0 O H hv S0 B F ps os) (hk : Kx [] w w') : HSt w' n0 O H hv S0 B F ps os where
  face := hk.get h.face (by simp)
  heap := hk.get h.heap (by simp)
  row := hk.owns h.row (fun g hg => by simp)
  obj := fun i o ho => by
    obtain ⟨h1, h2, h3, h4⟩ := h.obj i o ho
    exact ⟨hk.get h1 (by simp), h2, hk.owns h3 (fun g hg => by simp), h4⟩
  tree := h.tree.kept0 hk
  root := h.root
  dB := h.dB
  dR := h.dR
  fO := h.fO
  fH := h.fH
  fV := h.fV
  fB := h.fB
  fR := h.fR
  hi := h.hi
  hH := h.hH
  len := h.len
  n0w := Nat.le_trans h.n0w hk.size
theorem HSt.objs {w : World} {n0 O H : Nat} {hv : Value} {S0 B : Nat} {F : List Nat} {ps : List (Nat × List Stp)} {os : List Og} (h : HSt w n0 O H hv S0 B F ps os) (hne : os ≠ []) : Objs w H (os.map Og.b) := by
  have hpos : 0 < os.length := List.length_pos_iff.2 hne
  obtain ⟨g, cap, e⟩ := ownsRow_pos hpos h.row
  refine ⟨by have := h.len; rw [List.length_map]; omega, .inr ⟨by simpa using hne, g, cap, ?_, ?_⟩⟩
  · rw [cell_at h.heap 0 rfl, e, List.length_map]
    rfl
  · intro i b hb
    rw [List.getElem?_map] at hb
    cases ho : os[i]? with
    | none => rw [ho] at hb; cases hb
    | some o =>
      rw [ho] at hb
      simp at hb
      subst hb
      refine ⟨?_, cell_at (h.obj i o ho).1 4 rfl⟩
      have := h.row.cells (g := g) (by rw [e]; rfl) i (ptrV o.b) (by rw [List.getElem?_map, List.getElem?_map, ho]; rfl)
      rw [Addr.add_lit, Nat.zero_add] at this
      exact this
theorem HSt.O0 {w : World} {n0 O H : Nat} {hv : Value} {S0 B : Nat} {F : List Nat} {ps : List (Nat × List Stp)} {os : List Og} (h : HSt w n0 O H hv S0 B F ps os) : w.cell? ⟨O, 0, none⟩ = some (.pointer (some ⟨H, 0, none⟩)) := cell_at h.face 0 rfl
/-- Two that are told apart by their kinds. -/
theorem HSt.bO {w : World} {n0 O H : Nat} {hv : Value} {S0 B : Nat} {F : List Nat} {ps : List (Nat × List Stp)} {os : List Og} (h : HSt w n0 O H hv S0 B F ps os) {i : Nat} {o : Og} (ho : os[i]? = some o) : O ≠ o.b ∧ H ≠ o.b ∧ (∀ g, hv.ownBlock = some g → g ≠ o.b) ∧ (∀ g, o.nv.ownBlock = some g → O ≠ g ∧ H ≠ g ∧ o.b ≠ g) ∧ (∀ g g', o.nv.ownBlock = some g → hv.ownBlock = some g' → g' ≠ g) := by
  obtain ⟨h1, h2, h3, h4⟩ := h.obj i o ho
  refine ⟨cells_ne h.face h1 (by decide), cells_ne h.heap h1 (by decide), fun g hg => owns_ne h.row h1 (by decide) g hg, fun g hg => ⟨fun e => owns_ne h3 h.face (by decide) g hg e.symm, fun e => owns_ne h3 h.heap (by decide) g hg e.symm, fun e => owns_ne h3 h1 (by decide) g hg e.symm⟩, fun g g' hg hg' e => ?_⟩
  rcases h3.2 with ⟨e1, _⟩ | ⟨q, cap, cur, e1, _, hq, _⟩
  · rw [e1] at hg; cases hg
  · rw [e1] at hg
    have : q = g := by simpa [Value.ownBlock] using hg
    rw [this] at hq
    exact owns_ne h.row hq (by decide) g' hg' e
end Go.Proofs.YtmicdbplkfdfnaaGreatDoor
