/- plain.Define and plain.Delete, of a fixed object of which all is shut. -/
import Derived.Test.YtmicdbplkfdfnaaGreatDoorCTm2x
import Derived.Test.YtmicdbplkfdfnaaGreatDoorCSq4x
import Derived.Test.YtmicdbplkfdfnaaGreatDoorCHt2x
import Derived.Test.YtmicdbplkfdfnaaGreatDoorCSg9x
import Derived.Test.YtmicdbplkfdfnaaGreatDoorCSf1x
import Derived.Test.YtmicdbplkfdfnaaGreatDoorCHo3x
import Derived.Deep.RegionHeld3
import Derived.Deep.RegionLaw
set_option linter.unusedVariables false
namespace Go.Proofs.YtmicdbplkfdfnaaGreatDoor
open Go.RowKit Go.Shelf Go.Maps

theorem FSt.blo {w w' : World} {n0 O H b : Nat} {arr fx : Bool} {L : List ByteArray} {P : List Pr} {f : Nat → Option Pr} {F : Fp} (h : FSt w n0 O H b arr fx L P f F) (hk : Kx (F.blocks O H b) w w') : Below n0 w w' := hk.below h.n0w (fun i hi => (h.lt i hi).1)
theorem FSt.blo0 {w w' : World} {n0 O H b : Nat} {arr fx : Bool} {L : List ByteArray} {P : List Pr} {f : Nat → Option Pr} {F : Fp} (h : FSt w n0 O H b arr fx L P f F) (hk : Kx [] w w') : Below n0 w w' := hk.below h.n0w (fun i hi => by cases hi)
theorem objP_ptr (l : List Nat) (n : Int) : ∃ a, objP l n = .pointer a := by
  unfold objP
  split
  · split
    · exact ⟨_, rfl⟩
    · exact ⟨_, rfl⟩
  · exact ⟨_, rfl⟩
theorem orNone_all (O H : Nat) (l : List Nat) (w : World) (hO : w.cell? ⟨O, 0, none⟩ = some (.pointer (some ⟨H, 0, none⟩))) (h : Objs w H l) (t : Bool) (n : Int) :
    ∃ a ok, (t = true → ∀ W, Kx [] w W → Calls Tryz.prog 35 #[.pointer (some ⟨O, 0, none⟩), .int .i64 n] W fun e w' => e = .returned (.tuple #[.pointer a, .bool ok]) ∧ w' = W) ∧ (t = false → a = none ∧ ok = true) := by
  cases t with
  | false => exact ⟨none, true, (fun h => by cases h), fun _ => ⟨rfl, rfl⟩⟩
  | true =>
    obtain ⟨a, ha⟩ := objP_ptr l n
    refine ⟨a, (decide (n = 0) || decide (1 ≤ n ∧ n ≤ (l.length : Int))), fun _ W hW => ?_, (fun h => by cases h)⟩
    have := orNone_any O H l n W (hW.cell hO (by simp)) (h.kept hW)
    rw [ha] at this
    exact this
theorem FSt.plain4 {w : World} {n0 O H b : Nat} {arr : Bool} {L : List ByteArray} {P : List Pr} {f : Nat → Option Pr} {F : Fp} (h : FSt w n0 O H b arr true L P f F) (hE : ∀ W, Below n0 w W → Env W) (I : Inv4 arr L P f) (s : ByteArray) (hs : s.size ≤ 2000000)
    (hv hg ht hw he hc wr en cf : Bool) (k g st : Int) (x : Nat) (hx : x < 18446744073709551616) (tx : ByteArray) (htx : tx.size ≤ 2000000) (hm : F.m + 1 ≤ 10000) :
    Calls Tryz.prog 7 #[.pointer (some ⟨O, 0, none⟩), .int .i64 1, .string s, .agg #[.bool hv, .bool hg, .bool ht, .bool hw, .bool he, .bool hc, .int .i64 k, .float .f64 x, .string tx, .int .i64 1, .int .i64 g, .int .i64 st, .bool wr, .bool en, .bool cf]] w fun e w' => (∃ z : Int, e = .returned (.int .i64 z)) ∧ Keep4 w n0 O H b arr L P f F w' := by
  refine (define_plainE O 1 s hv hg ht hw he hc wr en cf k 1 g st x tx (Keep4 w n0 O H b arr L P f F) w (fun W hR => ?_) ?_).mono ?_
  · obtain ⟨F', _, h2⟩ := hR
    exact (hE W (h.blo h2.1)).er
  · intro W hW
    have hsW := h.kept0 hW
    have hEW := hE W (h.blo0 hW)
    obtain ⟨k', x', tx', r', okv, hV3, hV0, cV⟩ : ∃ k' x' tx' r' okv, (k' = 3 → tx' = ⟨#[]⟩ ∧ r' = none ∧ x' < 18446744073709551616) ∧ (hv = false → k' = 0 ∧ x' = 0 ∧ tx' = ⟨#[]⟩ ∧ r' = none ∧ okv = true) ∧
        (hv = true → ∀ W2, Kx [] W W2 → Calls Tryz.prog 63 #[.pointer (some ⟨O, 0, none⟩), .agg #[.int .i64 k, .float .f64 x, .string tx, .int .i64 1]] W2 fun e w' => e = .returned (.tuple #[.agg #[.int .i64 k', .float .f64 x', .string tx', .pointer r'], .bool okv]) ∧ Kx [] W2 w') := by
      cases hv with
      | false => exact ⟨0, 0, ⟨#[]⟩, none, true, (fun h => by cases h), fun _ => ⟨rfl, rfl, rfl, rfl, rfl⟩, (fun h => by cases h)⟩
      | true =>
        obtain ⟨k', x', tx', r', okv, h1, h2⟩ := value_all O H b [b] k x tx htx 1 W hsW.O0 hsW.objs (by omega) (by simp) hEW.u8
        exact ⟨k', x', tx', r', okv, (fun h3 => ⟨(h1 h3).1, (h1 h3).2.1, by rw [(h1 h3).2.2]; exact hx⟩), (fun h => by cases h), fun _ => h2⟩
    obtain ⟨g', okg, cG, nG⟩ := orNone_all O H [b] W hsW.O0 hsW.objs hg g
    obtain ⟨s', oks, cS, nS⟩ := orNone_all O H [b] W hsW.O0 hsW.objs ht st
    have cT := fun W2 (hW2 : Kx [] W W2) => told_any O hv hg ht hw he hc wr en cf okv okg oks k k' 1 g st x x' tx tx' r' g' s' W2 (fun h3 W3 hW3 => cV h3 W3 (hW2.same hW3)) hV0 (fun h3 W3 hW3 => cG h3 W3 (hW2.same hW3)) nG (fun h3 W3 hW3 => cS h3 W3 (hW2.same hW3)) nS
    cases hok : (okv && okg && oks) with
    | true =>
      rw [hok] at cT
      refine (define_faceE O H b [b] 1 s _ _ _ hv hg ht hw he hc wr en cf k 1 g st x tx wr en cf false k' x' tx' r' g' s' hv hg ht hw he hc ErrV (Keep4 w n0 O H b arr L P f F) W hsW.O0 hsW.objs (by omega) (by simp) cT (keyc s hs W hEW) ?_)
      intro W2 hW2
      exact ((h.kept0 (hW.same hW2)).defAny I (unitsS s) (txt_bound s hs) wr en cf hv hg ht hw he hc k' x' (fun h3 => (hV3 h3).2.2) tx' r' g' s' (fun h3 => ⟨(hV3 h3).1, (hV3 h3).2.1⟩) (fun h3 => ⟨(hV0 h3).1, (hV0 h3).2.1⟩) (fun h3 => (nG h3).1) (fun h3 => (nS h3).1) hm).mono fun e w' h3 => by
        obtain ⟨er, h4, h5, h6⟩ := h3
        exact ⟨er, h4, h5, h6.from (hW.same hW2)⟩
    | false =>
      rw [hok] at cT
      exact (define_faceN O H b [b] 1 s hv hg ht hw he hc wr en cf k 1 g st x tx wr en cf false k' x' tx' r' g' s' hv hg ht hw he hc W hsW.O0 hsW.objs (by omega) (by simp) cT).mono fun e w' h3 => ⟨_, h3.1, .inr (.inr rfl), (h.keep (hW.same h3.2))⟩
  · rintro e w' ⟨h1, W, h2, h3⟩
    exact ⟨h1, h2.kx h3⟩
theorem FSt.del4 {w : World} {n0 O H b : Nat} {arr : Bool} {L : List ByteArray} {P : List Pr} {f : Nat → Option Pr} {F : Fp} (h : FSt w n0 O H b arr true L P f F) (hE : ∀ W, Below n0 w W → Env W) (I : Inv4 arr L P f) (s : ByteArray) (hs : s.size ≤ 2000000) :
    Calls Tryz.prog 12 #[.pointer (some ⟨O, 0, none⟩), .int .i64 1, .string s] w fun e w' => (∃ z : Int, e = .returned (.int .i64 z)) ∧ Keep4 w n0 O H b arr L P f F w' := by
  refine (delete_plainE O 1 s (Keep4 w n0 O H b arr L P f F) w (fun W hR => ?_) ?_).mono ?_
  · obtain ⟨F', _, h2⟩ := hR
    exact (hE W (h.blo h2.1)).er
  · refine (delete_faceE O H b [b] 1 s _ _ _ ErrV (Keep4 w n0 O H b arr L P f F) w h.O0 h.objs (by omega) (by simp) (keyc s hs w (hE w (Below.refl _ _))) ?_)
    intro W hW
    exact ((h.kept0 hW).delAny I (unitsS s) (txt_bound s hs)).mono fun e w' h3 => by
      obtain ⟨er, h4, h5, h6⟩ := h3
      exact ⟨er, h4, h5, h6.from hW⟩
  · rintro e w' ⟨h1, W, h2, h3⟩
    exact ⟨h1, h2.kx h3⟩
end Go.Proofs.YtmicdbplkfdfnaaGreatDoor
set_option linter.unusedVariables false
namespace Go.Proofs.YtmicdbplkfdfnaaGreatDoor
open Go.RowKit Go.Shelf Go.Maps

theorem info67 : (Tryz.prog.info? 67).map (fun i => (i.zero, i.size, i.bytes)) = some (some (.agg #[.string ⟨#[]⟩, .int .u32 0, .bool false]), 3, 24) := by kernel_rfl
/-- Places and names as keys, cell by cell. -/
def kcells (l : List ByteArray) : List Value := l.flatMap fun s => [.string s, .int .u32 0, .bool false]
def pcells (l : List Nat) : List Value := l.flatMap fun (k : Nat) => [.string ⟨#[]⟩, .int .u32 (k : Int), .bool true]
theorem kcells_snoc (l : List ByteArray) (s : ByteArray) : kcells (l ++ [s]) = kcells l ++ [.string s, .int .u32 0, .bool false] := by simp [kcells]
theorem pcells_snoc (l : List Nat) (k : Nat) : pcells (l ++ [k]) = pcells l ++ [.string ⟨#[]⟩, .int .u32 (k : Int), .bool true] := by simp [pcells]
set_option maxRecDepth 100000 in
set_option maxHeartbeats 4000000 in
theorem keys_all (b S N M n : Nat) (c : Nat) (ga : Option Addr) (k fr nx al kp : Value) (cl pr fx num nv rw st kp2 : Value) (L : List ByteArray) (ks : List Nat) (w : World)
    (hB : w.heap[b]? = some (.cells #[cl, pr, fx, .nilIface, num, .pointer (some ⟨S, 0, none⟩), nv, rw, st, kp2] 111 (0, 0)))
    (hS : w.heap[S]? = some (.cells #[.pointer (some ⟨N, 0, none⟩), .int .i64 (L.length : Int), fr, nx, al, kp] 118 (0, 0)))
    (hN : w.heap[N]? = some (.cells #[.slice ga L.length c, .map (some M), k] 121 (0, 0))) (hrow : w.ownsRow 0 9 1 (.slice ga L.length c) L.length (L.map Value.string)) (hm : IMap w M n (pf L)) (hnd : L.Nodup) (hs : ∀ x ∈ L, x.size ≤ maxLen) (hL : L.length ≤ 1000) (hks : ks.length ≤ 1000)
    (cP : Calls Tryz.prog 46 #[.pointer (some ⟨b, 0, none⟩)] w fun e w' => ∃ a cap, e = .returned (.slice a ks.length cap) ∧ (∀ (j x : Nat), ks[j]? = some x → ∃ g, a = some ⟨g, 0, none⟩ ∧ g < w'.heap.size ∧ w'.cell? ⟨g, j, none⟩ = some (.int .u32 (x : Int))) ∧ Kx [] w w') :
    Calls Tryz.prog 22 #[.pointer (some ⟨b, 0, none⟩)] w fun e w' => ∃ v, e = .returned v ∧ w'.ownsRow w.heap.size 67 3 v (ks.length + L.length) (pcells ks ++ kcells L) ∧ Kx [] w w' := by
  have cU := units_zero b w (cell_at hB 3 rfl)
  have CP := (show Hid (Unit → Calls Tryz.prog 46 #[.pointer (some ⟨b, 0, none⟩)] w fun e w' => ∃ a cap, e = .returned (.slice a ks.length cap) ∧ (∀ (j x : Nat), ks[j]? = some x → ∃ g, a = some ⟨g, 0, none⟩ ∧ g < w'.heap.size ∧ w'.cell? ⟨g, j, none⟩ = some (.int .u32 (x : Int))) ∧ Kx [] w w') from fun _ => cP)
  have HB := (show Hid (w.heap[b]? = some (.cells #[cl, pr, fx, .nilIface, num, .pointer (some ⟨S, 0, none⟩), nv, rw, st, kp2] 111 (0, 0))) from hB)
  have HS := (show Hid (w.heap[S]? = some (.cells #[.pointer (some ⟨N, 0, none⟩), .int .i64 (L.length : Int), fr, nx, al, kp] 118 (0, 0))) from hS)
  have HN := (show Hid (w.heap[N]? = some (.cells #[.slice ga L.length c, .map (some M), k] 121 (0, 0))) from hN)
  have HR := (show Hid (w.ownsRow 0 9 1 (.slice ga L.length c) L.length (L.map Value.string)) from hrow)
  have HM := (show Hid (IMap w M n (pf L)) from hm)
  have HX := (show Hid (L.Nodup ∧ ∀ x ∈ L, x.size ≤ maxLen) from And.intro hnd hs)
  have hcc : L.length ≤ c := by
    rcases hrow.2 with ⟨e, h0⟩ | ⟨g', cap, cur, e, _, _, h1, _⟩
    · omega
    · simp only [Value.slice.injEq] at e
      omega
  clear hB hS hN hrow hm hnd hs cP
  obtain ⟨i0, hi, hz0, hz1, hz2⟩ := info_parts info67
  go_enter Tryz.func22, Tryz.ntmps22
  go_wp2_with (first | (go_at_call 45; refine cU.mono ?_; rintro e w1 ⟨rfl, h1⟩; obtain rfl := h1.symm))
  refine wp_loop_rounds 1 ?_
  rw [rounds_succ]
  go_wp2_with (first | (go_at_call 46; fail))
  refine (CP.out ()).mono ?_
  rintro e w1 ⟨a, cap, rfl, hcs, hk1⟩
  have HC := (show Hid (∀ (j x : Nat), ks[j]? = some x → ∃ g, a = some ⟨g, 0, none⟩ ∧ g < w1.heap.size ∧ w1.cell? ⟨g, j, none⟩ = some (.int .u32 (x : Int))) from hcs)
  have HK1 : Hid (Kx [] w w1) := (show Kx [] w w1 from hk1)
  clear hcs hk1 cU CP
  obtain ⟨P, hP⟩ : ∃ P, P = ks.length := ⟨_, rfl⟩
  rw [← hP] at hks ⊢
  have HP := (show Hid (P = ks.length) from hP)
  clear hP
  go_wp2
  go_loopw [3, 6, 25] (fun v _ i wr => ∃ q : Nat, q ≤ P ∧ i = .int .i64 q ∧ Hid (wr.ownsRow w1.heap.size 67 3 v q (pcells (ks.take q)) ∧ Kx [] w1 wr))
    (fun _ _ i _ => P - (intOf i).toNat)
  case atStart => exact ⟨0, Nat.zero_le _, rfl, (show _ ∧ _ from ⟨World.ownsRow_nil _ _ _ _, Kx.refl _ _⟩)⟩
  case round =>
    obtain ⟨q, hq, rfl, hH⟩ := hrel
    obtain ⟨r1, r2⟩ := hH.out
    clear hH
    by_cases hlt2 : q < P
    · obtain ⟨x, hx⟩ : ∃ x, ks[q]? = some x := ⟨_, List.getElem?_eq_getElem (by have := HP.out; omega)⟩
      obtain ⟨g, rfl, hg1, hg2⟩ := HC.out q x hx
      have hcell : wr.cell? ⟨g, q, none⟩ = some (.int .u32 (x : Int)) := r2.cell hg2 (by simp)
      have htk : ks.take (q + 1) = ks.take q ++ [x] := by rw [List.take_add_one, hx]; rfl
      have R1 : Hid (wr.ownsRow w1.heap.size 67 3 u3 q (pcells (ks.take q))) := r1
      have R2 : Hid (Kx [] w1 wr) := (show Kx [] w1 wr from r2)
      have hsz := r2.size
      have q1 : q + 1 ≤ maxLen := by unfold maxLen; omega
      have HT := (show Hid (ks.take (q + 1) = ks.take q ++ [x]) from htk)
      clear r1 r2 hx htk hg1 hg2
      go_wp2_with (first | (at_builtin; refine wpList_append_own _ rfl _ _ 63 rfl w1.heap.size 67 i0 _ 3 24 Tryz.underlying63 hi hz0 hz1 hz2 rfl (by decide) _ _ _ rfl (R1.out.alloc _) ⟨wr.heap.size, 0, none⟩ 1 1 [.string ⟨#[]⟩, .int .u32 (x : Int), .bool true] rfl rfl (cells_new wr [.string ⟨#[]⟩, .int .u32 (x : Int), .bool true] 67) (by intro u hu; simp at hu; rcases hu with rfl | rfl | rfl <;> rfl) q1 (by omega) (by simp; omega) ?_; intro v' w4 hown' hgrow hnil'))
      have hg2 : (wr.alloc (Obj.cells #[.string ⟨#[]⟩, .int .u32 (x : Int), .bool true] 67)).grownBy w4 u3.ownBlock := hgrow
      have HH : Hid (w4.ownsRow w1.heap.size 67 3 v' (q + 1) (pcells (ks.take (q + 1))) ∧ Kx [] w1 w4) := by
        refine (show _ ∧ _ from ⟨?_, ?_⟩)
        · rw [HT.out, pcells_snoc]; exact hown'
        · exact (R2.out.alc (Obj.cells #[.string ⟨#[]⟩, .int .u32 (x : Int), .bool true] 67)).trans (Kx.grown hg2) (fun i hi => .inr (by
            have h3 : u3.ownBlock = some i := by simpa using hi
            exact (R1.out.lt i h3).1))
      clear hown' hgrow hg2 hnil' R1 R2 HT hcell
      go_roundw
      case rel => exact ⟨q + 1, by omega, by go_num, HH⟩
      case measure => simp [intOf]; omega
    · have hqc : q = P := by omega
      subst hqc
      have R : Hid (wr.ownsRow w1.heap.size 67 3 u3 q (pcells (ks.take q)) ∧ Kx [] w1 wr) := ⟨r1, r2⟩
      clear r1 r2
      have hB1 := (HK1.out.same R.out.2).get HB.out (by simp)
      have hS1 := (HK1.out.same R.out.2).get HS.out (by simp)
      have hN1 := (HK1.out.same R.out.2).get HN.out (by simp)
      have b5 := cell_at hB1 5 rfl
      have s0 := cell_at hS1 0 rfl
      have s1 := cell_at hS1 1 rfl
      have n0 := cell_at hN1 0 rfl
      clear hB1 hS1 hN1
      go_wp2
      go_quiet (fail)
      have HK2 : Hid (Kx [] w1 (wr.drewN nq)) := (show Kx [] w1 (wr.drewN nq) from R.out.2.drw nq)
      have HO2 : Hid ((wr.drewN nq).ownsRow w1.heap.size 67 3 u3 q (pcells (ks.take q))) := R.out.1
      obtain ⟨W2, hW2⟩ : ∃ W2, W2 = wr.drewN nq := ⟨_, rfl⟩
      rw [← hW2] at HK2 HO2 ⊢
      clear hW2 R b5 s0 s1 n0
      obtain ⟨cnt, hcnt⟩ : ∃ cnt, cnt = L.length := ⟨_, rfl⟩
      rw [← hcnt] at hL hcc
      have HCN := (show Hid (cnt = L.length) from hcnt)
      rw [← hcnt]
      clear hcnt
      go_wp2
      go_loopw [3, 8, 9, 55] (fun v _ _ i wr => ∃ t : Nat, t ≤ cnt ∧ i = .int .i64 t ∧ Hid (wr.ownsRow w1.heap.size 67 3 v (q + t) (pcells ks ++ kcells (L.take t)) ∧ Kx [] w1 wr))
        (fun _ _ _ i _ => cnt - (intOf i).toNat)
      case atStart => exact ⟨0, Nat.zero_le _, rfl, (show _ ∧ _ from ⟨by
        have := HO2.out
        rw [HP.out, List.take_length] at this
        simpa [kcells, HP.out] using this, HK2.out⟩)⟩
      case round =>
        obtain ⟨t, ht, rfl, hH⟩ := hrel
        obtain ⟨r1, r2⟩ := hH.out
        clear hH HK2 HO2
        by_cases hlt3 : t < cnt
        · have hR : wr.ownsRow 0 9 1 (.slice ga L.length c) L.length (L.map Value.string) := (HK1.out.same r2).owns HR.out (fun g hg => by simp)
          obtain ⟨g, cg, ea⟩ := ownsRow_pos (by have := HCN.out; omega) hR
          simp only [Value.slice.injEq] at ea
          obtain ⟨rfl, -, rfl⟩ := ea
          obtain ⟨x, hx⟩ : ∃ x, L[t]? = some x := ⟨_, List.getElem?_eq_getElem (by have := HCN.out; omega)⟩
          have hxs : x.size ≤ maxLen := HX.out.2 x (List.mem_of_getElem? hx)
          have hcell : wr.cell? ⟨g, t, none⟩ = some (.string x) := by
            have := hR.cells (g := g) rfl t (.string x) (by rw [List.getElem?_map, hx]; rfl)
            rw [Addr.add_lit, Nat.zero_add] at this
            exact this
          have hf := (pf_get _ L rfl HX.out.1 x t).2 hx
          have cH := has_any N M n t g c k L (pf L) x wr ((HK1.out.same r2).get HN.out (by simp)) hcell (by have := HCN.out; omega) (by have := HCN.out; omega) ((HK1.out.same r2).imap HM.out (by simp)) hxs hf
          have htk : L.take (t + 1) = L.take t ++ [x] := by rw [List.take_add_one, hx]; rfl
          have R1 : Hid (wr.ownsRow w1.heap.size 67 3 u3 (q + t) (pcells ks ++ kcells (L.take t))) := r1
          have R2 : Hid (Kx [] w1 wr) := (show Kx [] w1 wr from r2)
          have hsz := r2.size
          have q1 : q + t + 1 ≤ maxLen := by unfold maxLen; omega
          have HT := (show Hid (L.take (t + 1) = L.take t ++ [x]) from htk)
          clear r1 r2 hR hx hxs hf htk
          go_wp2_with (first | (go_at_call 47; refine cH.mono ?_; rintro e w3 ⟨rfl, qq, rfl⟩) | (at_builtin; refine wpList_append_own _ rfl _ _ 63 rfl w1.heap.size 67 i0 _ 3 24 Tryz.underlying63 hi hz0 hz1 hz2 rfl (by decide) _ _ _ rfl ((show (wr.drewN qq).ownsRow _ _ _ _ _ _ from R1.out).alloc _) ⟨wr.heap.size, 0, none⟩ 1 1 [.string x, .int .u32 0, .bool false] rfl rfl (cells_new (wr.drewN qq) [.string x, .int .u32 0, .bool false] 67) (by intro u hu; simp at hu; rcases hu with rfl | rfl | rfl <;> rfl) q1 (by omega) (by simp; omega) ?_; intro v' w4 hown' hgrow hnil'))
          have hg2 : ((wr.drewN qq).alloc (Obj.cells #[.string x, .int .u32 0, .bool false] 67)).grownBy w4 u3.ownBlock := hgrow
          have HH : Hid (w4.ownsRow w1.heap.size 67 3 v' (q + (t + 1)) (pcells ks ++ kcells (L.take (t + 1))) ∧ Kx [] w1 w4) := by
            refine (show _ ∧ _ from ⟨?_, ?_⟩)
            · rw [HT.out, kcells_snoc, ← List.append_assoc]; exact hown'
            · exact ((R2.out.drw qq).alc (Obj.cells #[.string x, .int .u32 0, .bool false] 67)).trans (Kx.grown hg2) (fun i hi => .inr (by
                have h3 : u3.ownBlock = some i := by simpa using hi
                exact (R1.out.lt i h3).1))
          clear hown' hgrow hg2 hnil' R1 R2 HT cH hcell
          go_roundw
          case rel => exact ⟨t + 1, by omega, by go_num, HH⟩
          case measure => simp [intOf]; omega
        · have htc : t = cnt := by omega
          subst htc
          have R : Hid (wr.ownsRow w1.heap.size 67 3 u3 (q + t) (pcells ks ++ kcells (L.take t)) ∧ Kx [] w1 wr) := ⟨r1, r2⟩
          clear r1 r2
          go_wp2
          go_ret
          have h1 := R.out.1
          have e : L.take t = L := by rw [HCN.out, List.take_length]
          rw [e] at h1
          have h2 : wr.ownsRow w1.heap.size 67 3 u3 (ks.length + L.length) (pcells ks ++ kcells L) := by rw [← HP.out, ← HCN.out]; exact h1
          exact ⟨u3, rfl, owns_low h2 HK1.out.size, HK1.out.same R.out.2⟩
end Go.Proofs.YtmicdbplkfdfnaaGreatDoor
set_option linter.unusedVariables false
namespace Go.Proofs.YtmicdbplkfdfnaaGreatDoor
open Go.RowKit Go.Shelf Go.Maps

/-- A key: name, place, is it one. -/
abbrev Ky : Type := ByteArray × Nat × Bool
def kyL (K : List Ky) : List Value := K.flatMap fun x => [.string x.1, .int .u32 (x.2.1 : Int), .bool x.2.2]
def kysOf (ks : List Nat) (L : List ByteArray) : List Ky := ks.map (fun k => (⟨#[]⟩, k, true)) ++ L.map (fun s => (s, 0, false))
theorem kyL_of (ks : List Nat) (L : List ByteArray) : kyL (kysOf ks L) = pcells ks ++ kcells L := by
  simp [kyL, kysOf, pcells, kcells, List.flatMap_map]
theorem kyL_get : ∀ (K : List Ky) (q : Nat) (x : Ky), K[q]? = some x → (kyL K)[q * 3]? = some (.string x.1) ∧ (kyL K)[q * 3 + 1]? = some (.int .u32 (x.2.1 : Int)) ∧ (kyL K)[q * 3 + 2]? = some (.bool x.2.2)
  | [], q, x, h => by simp at h
  | a :: L, 0, x, h => by
    simp at h
    subst h
    simp [kyL]
  | a :: L, q + 1, x, h => by
    have := kyL_get L q x (by simpa using h)
    have e : kyL (a :: L) = [.string a.1, .int .u32 (a.2.1 : Int), .bool a.2.2] ++ kyL L := by simp [kyL]
    rw [e]
    refine ⟨?_, ?_, ?_⟩
    · rw [List.getElem?_append_right (by simp; omega)]
      simpa [Nat.add_mul] using this.1
    · rw [List.getElem?_append_right (by simp; omega), show (q + 1) * 3 + 1 - ([.string a.1, .int .u32 (a.2.1 : Int), .bool a.2.2] : List Value).length = q * 3 + 1 by simp; omega]
      exact this.2.1
    · rw [List.getElem?_append_right (by simp; omega), show (q + 1) * 3 + 2 - ([.string a.1, .int .u32 (a.2.1 : Int), .bool a.2.2] : List Value).length = q * 3 + 2 by simp; omega]
      exact this.2.2
set_option maxRecDepth 100000 in
set_option maxHeartbeats 2000000 in
theorem keys_faceP (O H b : Nat) (l : List Nat) (r : Int) (K : List Ky) (T : List ByteArray) (w : World)
    (hO : w.cell? ⟨O, 0, none⟩ = some (.pointer (some ⟨H, 0, none⟩))) (hH : Objs w H l) (hr1 : 1 ≤ r) (hr : l[(r - 1).toNat]? = some b) (hL : T.length ≤ 2000) (hKT : K.length = T.length)
    (cT : ∀ (q : Nat) (x : Ky) (t : ByteArray), K[q]? = some x → T[q]? = some t → ∀ W, Kx [] w W → Calls Tryz.prog 23 #[.agg #[.string x.1, .int .u32 (x.2.1 : Int), .bool x.2.2]] W fun e w' => e = .returned (.string t) ∧ Kx [] W w')
    (cK : Calls Tryz.prog 22 #[.pointer (some ⟨b, 0, none⟩)] w fun e w' => ∃ v, e = .returned v ∧ w'.ownsRow w.heap.size 67 3 v T.length (kyL K) ∧ Kx [] w w') :
    Calls Tryz.prog 8 #[.pointer (some ⟨O, 0, none⟩), .int .i64 r] w fun e w' => ∃ v, e = .returned v ∧ w'.ownsRow w.heap.size 9 1 v T.length (T.map Value.string) ∧ Kx [] w w' := by
  have c1 := numbered_any H l r w hH
  rw [objP_hit hr1 hr] at c1
  have CK := (show Hid (∀ _ : Unit, _) from fun _ : Unit => cK)
  have CT := (show Hid (∀ (q : Nat) (x : Ky) (t : ByteArray), K[q]? = some x → T[q]? = some t → ∀ W, Kx [] w W → Calls Tryz.prog 23 #[.agg #[.string x.1, .int .u32 (x.2.1 : Int), .bool x.2.2]] W fun e w' => e = .returned (.string t) ∧ Kx [] W w') from cT)
  have HKT := (show Hid (K.length = T.length) from hKT)
  clear cK hH hr1 hr cT hKT
  go_enter Tryz.func8, Tryz.ntmps8
  go_wp2_with (first | (go_at_call 21; refine c1.mono ?_; rintro e w1 ⟨rfl, h1⟩; obtain rfl := h1.symm) | (go_at_call 22; refine (CK.out ()).mono ?_; rintro e w2 ⟨v, rfl, hrow, hk⟩; obtain ⟨va, vc, rfl⟩ := owns_slice hrow))
  have HRW : Hid (w2.ownsRow w.heap.size 67 3 (.slice va T.length vc) T.length (kyL K)) := hrow
  have HK2 : Hid (Kx [] w w2) := (show Kx [] w w2 from hk)
  clear hrow hk c1 CK hO
  obtain ⟨i0, hi, hz0, hz1, hz2⟩ := info_parts info9
  go_loopw [6, 8, 20] (fun v _ i wr => ∃ q : Nat, q ≤ T.length ∧ i = .int .i64 q ∧ Hid (wr.ownsRow w2.heap.size 9 1 v q ((T.take q).map Value.string) ∧ Kx [] w2 wr))
    (fun _ _ i _ => T.length - (intOf i).toNat)
  case atStart => exact ⟨0, Nat.zero_le _, rfl, (show _ ∧ _ from ⟨World.ownsRow_nil _ _ _ _, Kx.refl _ _⟩)⟩
  case round =>
    obtain ⟨q, hq, rfl, hH⟩ := hrel
    obtain ⟨r1, r2⟩ := hH.out
    clear hH
    by_cases hlt2 : q < T.length
    · have hR := r2.owns HRW.out (fun g hg => by simp)
      obtain ⟨g, cg, ea⟩ := ownsRow_pos (by omega) hR
      simp only [Value.slice.injEq] at ea
      obtain ⟨rfl, -, rfl⟩ := ea
      obtain ⟨x, hx⟩ : ∃ x, T[q]? = some x := ⟨_, List.getElem?_eq_getElem hlt2⟩
      obtain ⟨⟨kn, kp, ki⟩, hkx⟩ : ∃ kx, K[q]? = some kx := ⟨_, List.getElem?_eq_getElem (by have := HKT.out; omega)⟩
      obtain ⟨x0, x1, x2⟩ := kyL_get K q _ hkx
      have y0 : wr.cell? ⟨g, q * 3, none⟩ = some (.string kn) := by
        have := hR.cells (g := g) rfl _ _ x0
        rw [Addr.add_lit, Nat.zero_add] at this
        exact this
      have y1 : wr.cell? ⟨g, q * 3 + 1, none⟩ = some (.int .u32 (kp : Int)) := by
        have := hR.cells (g := g) rfl _ _ x1
        rw [Addr.add_lit, Nat.zero_add] at this
        exact this
      have y2 : wr.cell? ⟨g, q * 3 + 2, none⟩ = some (.bool ki) := by
        have := hR.cells (g := g) rfl _ _ x2
        rw [Addr.add_lit, Nat.zero_add] at this
        exact this
      have cX := fun (W : World) (hW : Kx [] w2 W) => CT.out q _ x hkx hx W (HK2.out.same hW)
      have CX := (show Hid (∀ W, Kx [] w2 W → Calls Tryz.prog 23 #[.agg #[.string kn, .int .u32 (kp : Int), .bool ki]] W fun e w' => e = .returned (.string x) ∧ Kx [] W w') from cX)
      have htk : T.take (q + 1) = T.take q ++ [x] := by rw [List.take_add_one, hx]; rfl
      have R1 : Hid (wr.ownsRow w2.heap.size 9 1 u6 q ((T.take q).map Value.string)) := r1
      have R2 : Hid (Kx [] w2 wr) := (show Kx [] w2 wr from r2)
      have hsz := r2.size
      have q1 : q + 1 ≤ maxLen := by unfold maxLen; omega
      have HT := (show Hid (T.take (q + 1) = T.take q ++ [x]) from htk)
      clear r1 r2 hR hx hkx htk x0 x1 x2 cX
      go_wp2_with (first | (go_at_call 23; refine (CX.out _ (R2.out.alc _)).mono ?_; rintro e w3 ⟨rfl, hk3⟩; have HK3 : Hid (Kx [] wr w3) := (show Kx [] wr w3 from (Kx.alloc [] wr _).same hk3); have R3 : Hid (w3.ownsRow w2.heap.size 9 1 u6 q ((T.take q).map Value.string)) := HK3.out.owns R1.out (fun g hg => by simp); have hs3 := HK3.out.size; clear hk3) | (at_builtin; refine wpList_append_own _ rfl _ _ 22 rfl w2.heap.size 9 i0 _ 1 16 Tryz.underlying22 hi hz0 hz1 hz2 rfl (by decide) _ _ _ rfl (R3.out.alloc _) ⟨w3.heap.size, 0, none⟩ 1 1 [.string x] rfl rfl (cells_new w3 [.string x] 9) (by intro u hu; simp at hu; rw [hu]; rfl) q1 (by omega) (by simp; omega) ?_; intro v' w4 hown' hgrow hnil'))
      have hg2 : (w3.alloc (Obj.cells #[.string x] 9)).grownBy w4 u6.ownBlock := hgrow
      have HH : Hid (w4.ownsRow w2.heap.size 9 1 v' (q + 1) ((T.take (q + 1)).map Value.string) ∧ Kx [] w2 w4) := by
        refine (show _ ∧ _ from ⟨?_, ?_⟩)
        · rw [HT.out, List.map_append]; exact hown'
        · exact (((R2.out.same HK3.out)).alc (Obj.cells #[.string x] 9)).trans (Kx.grown hg2) (fun i hi => .inr (by
            have h3 : u6.ownBlock = some i := by simpa using hi
            exact (R1.out.lt i h3).1))
      clear hown' hgrow hg2 hnil' R1 R2 R3 HT HK3 CX y0 y1 y2
      go_roundw
      case rel => exact ⟨q + 1, by omega, by go_num, HH⟩
      case measure => simp [intOf]; omega
    · have hqc : q = T.length := by omega
      subst hqc
      have R : Hid (wr.ownsRow w2.heap.size 9 1 u6 T.length ((T.take T.length).map Value.string) ∧ Kx [] w2 wr) := ⟨r1, r2⟩
      clear r1 r2
      go_wp2
      go_ret
      obtain ⟨r1, r2⟩ := R.out
      rw [List.take_length] at r1
      exact ⟨_, rfl, owns_low r1 HK2.out.size, HK2.out.same r2⟩
end Go.Proofs.YtmicdbplkfdfnaaGreatDoor
set_option linter.unusedVariables false
namespace Go.Proofs.YtmicdbplkfdfnaaGreatDoor
open Go.RowKit Go.Shelf Go.Maps
attribute [local go_sem] run_store_flt

set_option maxRecDepth 100000 in
set_option maxHeartbeats 2000000 in
theorem plainValue_any (k : Int) (x : Nat) (tx : ByteArray) (w : World) :
    Calls Tryz.prog 55 #[.agg #[.int .i64 k, .float .f64 x, .string tx, .pointer none]] w fun e w' => e = .returned (.agg #[.int .i64 k, .float .f64 x, .string tx, .int .i64 0]) ∧ Kx [] w w' := by
  have c := numberOf_nil
  obtain ⟨W0, hW0⟩ : ∃ W0, W0 = (w.alloc (Obj.cells #[.int .i64 k, .float .f64 x, .string tx, .pointer none] 73)).alloc (Obj.cells #[.int .i64 0, .float .f64 0, .string ⟨#[]⟩, .int .i64 0] 32) := ⟨_, rfl⟩
  have hk0 : Kx [] w W0 := by rw [hW0]; exact (show Kx [] w _ from (Kx.alloc _ _ _).alc _)
  have hV0 : W0.heap[w.heap.size]? = some (Obj.cells #[.int .i64 k, .float .f64 x, .string tx, .pointer none] 73 (0, 0)) := by rw [hW0]; exact heap_old (heap_alloc_new _ _) _
  have hR0 : W0.heap[w.heap.size + 1]? = some (Obj.cells #[.int .i64 0, .float .f64 0, .string ⟨#[]⟩, .int .i64 0] 32 (0, 0)) := by rw [hW0]; exact heap_alloc2_new _ _ _
  have hR1 := heap_set_at (C' := #[.int .i64 k, .float .f64 0, .string ⟨#[]⟩, .int .i64 0]) hR0 0 (.int .i64 k) rfl
  have hV1 := heap_setCell_ne hV0 (show w.heap.size + 1 ≠ w.heap.size by omega) 0 (.int .i64 k)
  have hR2 := heap_set_at (C' := #[.int .i64 k, .float .f64 x, .string ⟨#[]⟩, .int .i64 0]) hR1 1 (.float .f64 x) rfl
  have hV2 := heap_setCell_ne hV1 (show w.heap.size + 1 ≠ w.heap.size by omega) 1 (.float .f64 x)
  have hR3 := heap_set_at (C' := #[.int .i64 k, .float .f64 x, .string tx, .int .i64 0]) hR2 2 (.string tx) rfl
  have hV3 := heap_setCell_ne hV2 (show w.heap.size + 1 ≠ w.heap.size by omega) 2 (.string tx)
  have hR4 := heap_set_at (C' := #[.int .i64 k, .float .f64 x, .string tx, .int .i64 0]) hR3 3 (.int .i64 0) rfl
  have hV4 := heap_setCell_ne hV3 (show w.heap.size + 1 ≠ w.heap.size by omega) 3 (.int .i64 0)
  have a0 := cell_at hV0 0 rfl
  have a1 := cell_at hV0 1 rfl
  have a2 := cell_at hV0 2 rfl
  have a3 := cell_at hV0 3 rfl
  have b0 := cell_at hV4 0 rfl
  have b1 := cell_at hV4 1 rfl
  have b2 := cell_at hV4 2 rfl
  have b3 := cell_at hV4 3 rfl
  have r0 := cell_at hR0 0 rfl
  have f0 := fr_all hR0 0
  have r1 := cell_at hR0 1 rfl
  have f1 := fr_all hR0 1
  have r2 := cell_at hR0 2 rfl
  have f2 := fr_all hR0 2
  have r3 := cell_at hR0 3 rfl
  have f3 := fr_all hR0 3
  have HR4 := (show Hid _ from hR4)
  have HK0 : Hid (Kx [] w W0) := (show Kx [] w W0 from hk0)
  clear hV0 hV1 hV2 hV3 hV4 hR0 hR1 hR2 hR3 hR4 hk0
  go_enter Tryz.func55, Tryz.ntmps55
  go_wp2
  rw [← hW0]
  clear hW0
  go_region_held3 (fun Z : World => Z.cell? ⟨w.heap.size, 0, none⟩ = some (.int .i64 k) ∧ Z.cell? ⟨w.heap.size, 1, none⟩ = some (.float .f64 x) ∧ Z.cell? ⟨w.heap.size, 2, none⟩ = some (.string tx) ∧ Z.cell? ⟨w.heap.size, 3, none⟩ = some (.pointer none)) (first | exact ⟨a0, a1, a2, a3⟩ | exact ⟨b0, b1, b2, b3⟩) (first | (go_simp; go_at_call 54; refine (c _).mono ?_; rintro e w1 ⟨rfl, rfl⟩))
  go_wp2
  refine bodyPost_ret (results_cell_row rfl _ _ (w.heap.size + 1) 32 _ (0, 0) _ rfl HR4.out Tryz.underlying32 rfl (by kernel_rfl)) rfl ?_
  exact ⟨rfl, HK0.out.trans ((((((Kx.refl [w.heap.size + 1] W0).set (by simp) _).set (by simp) _).set (by simp) _).set (by simp) _).drw1) (fun i hi => .inr (by simp at hi; omega))⟩
end Go.Proofs.YtmicdbplkfdfnaaGreatDoor
