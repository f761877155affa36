/- The walk of the law UnitsTurned, out of its callees' contracts. -/
import Derived.Test.YtmjnmnnfpcaogaaDoorTurned
set_option linter.unusedVariables false
namespace Go.Proofs.YtmjnmnnfpcaogaaDoor
open Go.RowKit Go.Shelf Go.Lib

/-- A call that hands back a slice of its own, with these units. -/
def GivesRow (f : Nat) (args : Array Value) (W : World) (us : List Nat) : Prop :=
  Calls Tryd.prog f args W fun e w' => ∃ v, e = .returned v ∧ w'.ownsRow W.heap.size 24 1 v us.length (us.map uv) ∧ (v = .slice none 0 0 ↔ us = []) ∧ Below W.heap.size W w'
/-- A call that hands back this value. -/
def Gives (f : Nat) (args : Array Value) (W : World) (v : Value) : Prop :=
  Calls Tryd.prog f args W fun e w' => e = .returned v ∧ Below W.heap.size W w'

set_option maxRecDepth 100000 in
set_option maxHeartbeats 8000000 in
theorem turned_core (s : ByteArray) (hs : s.size ≤ 4000) (U M C1 C2 Tr : List Nat) (hU : U.length ≤ 200000) (hM : M.length ≤ 200000) (hM0 : M ≠ []) (T0 T1 T2 T3 : ByteArray) (w : World)
    (kU : ∀ W, Below w.heap.size w W → GivesRow 5 #[.string s] W U)
    (kR : ∀ W, Below w.heap.size w W → GivesRow 6 #[.string s] W U)
    (kM : ∀ W, Below w.heap.size w W → GivesRow 5 #[.string (s ++ ⟨#[33]⟩)] W M)
    (kS : ∀ a b W, Row16 W.heap.size W a U → Row16 W.heap.size W b U → Gives 7 #[a, b] W (.bool true))
    (kT : ∀ v W, Row16 W.heap.size W v U → Gives 8 #[v] W (.string T0))
    (kX : ∀ v W, Row16 W.heap.size W v U → Gives 9 #[v] W (.string T0))
    (kC1 : ∀ v W, Below w.heap.size w W → Row16 W.heap.size W v U → Calls Tryd.prog 10 #[v, .bool true] W fun e w' => ∃ v', e = .returned v' ∧ w'.ownsRow W.heap.size 24 1 v' C1.length (C1.map uv) ∧ Below W.heap.size W w')
    (kX1 : ∀ v W, Row16 W.heap.size W v C1 → Gives 9 #[v] W (.string T1))
    (kUp : ∀ W, Below w.heap.size w W → Gives 11 #[.string s] W (.string T1))
    (kC2 : ∀ v W, Below w.heap.size w W → Row16 W.heap.size W v U → Calls Tryd.prog 10 #[v, .bool false] W fun e w' => ∃ v', e = .returned v' ∧ w'.ownsRow W.heap.size 24 1 v' C2.length (C2.map uv) ∧ Below W.heap.size W w')
    (kX2 : ∀ v W, Row16 W.heap.size W v C2 → Gives 9 #[v] W (.string T2))
    (kLo : ∀ W, Below w.heap.size w W → Gives 12 #[.string s] W (.string T2))
    (kTr : ∀ v W, Below w.heap.size w W → RowC W v U → Calls Tryd.prog 13 #[v] W fun e w' => ∃ v', e = .returned v' ∧ RowC w' v' Tr ∧ Below W.heap.size W w')
    (kX3 : ∀ v W, Row16 W.heap.size W v Tr → Gives 9 #[v] W (.string T3))
    (kTm : ∀ W, Below w.heap.size w W → Gives 14 #[.string s] W (.string T3)) :
    Calls Tryd.prog 3 #[.string s] w fun e w' => e = .returned (.bool true) ∧ Below w.heap.size w w' := by
  have hU5 := (show Hid _ from kU); have hR6 := (show Hid _ from kR); have hM5 := (show Hid _ from kM); have hS7 := (show Hid _ from kS); have hT8 := (show Hid _ from kT); have hX9 := (show Hid _ from kX)
  have hC1 := (show Hid _ from kC1); have hX1 := (show Hid _ from kX1); have hUp := (show Hid _ from kUp); have hC2 := (show Hid _ from kC2); have hX2 := (show Hid _ from kX2); have hLo := (show Hid _ from kLo)
  have hTr := (show Hid _ from kTr); have hX3 := (show Hid _ from kX3); have hTm := (show Hid _ from kTm)
  clear kU kR kM kS kT kX kC1 kX1 kUp kC2 kX2 kLo kTr kX3 kTm
  have hk : ¬ (4000 : Int) < (s.size : Int) := by omega
  go_enter Tryd.func3, Tryd.ntmps3
  go_wp2_with fail
  refine Calls.mono (hU5.out _ (Below.refl _ _)) ?_
  rintro e w1 ⟨va, rfl, hownA, hnilA, hb1⟩
  go_wp2_with fail
  refine Calls.mono (hR6.out _ hb1) ?_
  rintro e w2 ⟨vb, rfl, hownB, hnilB, hb2⟩
  have hB2 := hb1.trans (hb2.mono hb1.size)
  go_wp2_with fail
  refine Calls.mono (hM5.out _ hB2) ?_
  rintro e w3 ⟨vm, rfl, hownM, hnilM, hb3⟩
  have hB3 := hB2.trans (hb3.mono hB2.size)
  obtain ⟨gm, capm, rfl⟩ := ownsRow_pos (by have := List.length_pos_iff.2 hM0; omega) hownM
  have RA2 : RowC w2 va U := (rowC_of_owns hownA).below hb2
  have RB2 : RowC w2 vb U := rowC_of_owns hownB
  have hgm := (hownM.lt gm rfl).1
  obtain ⟨cur0, hcur0, hsz0⟩ : ∃ cur : Array Value, w3.heap[gm]? = some (.cells cur 24 (0, 0)) ∧ M.length ≤ cur.size := by
    rcases hownM.2 with ⟨e, _⟩ | ⟨g, cap, cur, e, _, hgb, hcap, _, hcs, _⟩
    · cases e
    · cases e
      exact ⟨cur, hgb, by omega⟩
  have key : ∀ W, Below w2.heap.size w2 W → Below w.heap.size w W := fun W h => hB2.trans (h.mono hB2.size)
  have KEY := (show Hid _ from key)
  clear hnilM hownM key
  by_cases h0 : U = []
  · obtain rfl := hnilA.2 h0
    obtain rfl := hnilB.2 h0
    subst h0
    clear hnilA hnilB hownA hownB
    simp only [List.length_nil] at hU
    go_wp2_with fail
    go_loopw [6] (fun i wr => ∃ (k : Nat) (cur : Array Value), k ≤ M.length ∧ i = .int .i64 k ∧ wr.heap[gm]? = some (.cells cur 24 (0, 0)) ∧ M.length ≤ cur.size ∧ Below w2.heap.size w2 wr) (fun i _ => M.length - (intOf i).toNat)
    case atStart => exact ⟨0, cur0, Nat.zero_le _, rfl, hcur0, hsz0, hb3⟩
    case round =>
      obtain ⟨k, cur, hk1, rfl, hcur, hsz, hbm⟩ := hrel
      by_cases hlt : k < M.length
      · have hcell : wr.cell? ⟨gm, k, none⟩ = some (cur[k]'(by omega)) := by
          simp only [World.cell?, hcur]
          simp [show k < cur.size by omega]
        have hfz : wr.frozen? ⟨gm, k, none⟩ = false := by simp [World.frozen?, hcur]
        obtain ⟨cur', hcur', hsz'⟩ := set_block (k := k) hcur (.int .u16 33)
        have HC := (show Hid _ from hcur')
        have hb' := hbm.setCell (p := ⟨gm, k, none⟩) hgm (.int .u16 33)
        have HB := (show Hid _ from (And.intro hb'.os (And.intro hb'.tape (And.intro hb'.output (And.intro hb'.size hb'.block)))))
        have hszf : M.length ≤ cur'.size := by omega
        clear hcur' hcur hb' hsz'
        generalize cur[k]'(by omega) = old at *
        go_wp2
        go_roundw
        case rel => exact ⟨k + 1, cur', by omega, by go_num, HC.out, hszf, ⟨HB.out.1, HB.out.2.1, HB.out.2.2.1, HB.out.2.2.2.1, HB.out.2.2.2.2⟩⟩
        case measure => simp [intOf]; omega
      · have RA := RA2.below hbm
        have RB := RB2.below hbm
        have hBm := KEY.out _ hbm
        clear hcur
        go_wp2_with fail
        refine Calls.mono (hS7.out _ _ _ RA.row RB.row) ?_
        rintro e w4 ⟨rfl, hb4⟩
        have hB4 := hBm.trans (hb4.mono hBm.size)
        have RA4 := RA.below hb4
        have RB4 := RB.below hb4
        go_wp2_with fail
        refine Calls.mono (hT8.out _ _ RA4.row) ?_
        rintro e w5 ⟨rfl, hb5⟩
        have hB5 := hB4.trans (hb5.mono hB4.size)
        have RA5 := RA4.below hb5
        have RB5 := RB4.below hb5
        go_wp2_with fail
        refine Calls.mono (hX9.out _ _ RB5.row) ?_
        rintro e w6 ⟨rfl, hb6⟩
        have hB6 := hB5.trans (hb6.mono hB5.size)
        have RA6 := RA5.below hb6
        have RB6 := RB5.below hb6
        go_wp2_with fail
        refine Calls.mono (hS7.out _ _ _ RA6.row RB6.row) ?_
        rintro e w7 ⟨rfl, hb7⟩
        have hB7 := hB6.trans (hb7.mono hB6.size)
        have RB7 := RB6.below hb7
        go_wp2_with fail
        refine Calls.mono (hC1.out _ _ hB7 RB7.row) ?_
        rintro e w8 ⟨v8, rfl, hown8, hb8⟩
        have hB8 := hB7.trans (hb8.mono hB7.size)
        have RB8 := RB7.below hb8
        go_wp2_with fail
        refine Calls.mono (hX1.out _ _ (row16_of_owns hown8)) ?_
        rintro e w9 ⟨rfl, hb9⟩
        have hB9 := hB8.trans (hb9.mono hB8.size)
        have RB9 := RB8.below hb9
        go_wp2_with fail
        refine Calls.mono (hUp.out _ hB9) ?_
        rintro e w10 ⟨rfl, hb10⟩
        have hB10 := hB9.trans (hb10.mono hB9.size)
        have RB10 := RB9.below hb10
        go_wp2_with fail
        refine Calls.mono (hC2.out _ _ hB10 RB10.row) ?_
        rintro e w11 ⟨v11, rfl, hown11, hb11⟩
        have hB11 := hB10.trans (hb11.mono hB10.size)
        have RB11 := RB10.below hb11
        go_wp2_with fail
        refine Calls.mono (hX2.out _ _ (row16_of_owns hown11)) ?_
        rintro e w12 ⟨rfl, hb12⟩
        have hB12 := hB11.trans (hb12.mono hB11.size)
        have RB12 := RB11.below hb12
        go_wp2_with fail
        refine Calls.mono (hLo.out _ hB12) ?_
        rintro e w13 ⟨rfl, hb13⟩
        have hB13 := hB12.trans (hb13.mono hB12.size)
        have RB13 := RB12.below hb13
        go_wp2_with fail
        refine Calls.mono (hTr.out _ _ hB13 RB13) ?_
        rintro e w14 ⟨v14, rfl, RT14, hb14⟩
        have hB14 := hB13.trans (hb14.mono hB13.size)
        go_wp2_with fail
        refine Calls.mono (hX3.out _ _ RT14.row) ?_
        rintro e w15 ⟨rfl, hb15⟩
        have hB15 := hB14.trans (hb15.mono hB14.size)
        go_wp2_with fail
        refine Calls.mono (hTm.out _ hB15) ?_
        rintro e w16 ⟨rfl, hb16⟩
        have hB16 := hB15.trans (hb16.mono hB15.size)
        go_wp2
        go_ret
        exact ⟨by simp, hB16⟩
  · obtain ⟨ga, capa, rfl⟩ := ownsRow_pos (by have := List.length_pos_iff.2 h0; omega) hownA
    have t0 : ((U.length : Int) == 0) = false := by
      have := List.length_pos_iff.2 h0
      simp
      omega
    have H0 := (show Hid _ from h0)
    clear hnilA hnilB hownA hownB h0
    go_wp2_with fail
    go_loopw [6] (fun i wr => ∃ (k : Nat) (cur : Array Value), k ≤ M.length ∧ i = .int .i64 k ∧ wr.heap[gm]? = some (.cells cur 24 (0, 0)) ∧ M.length ≤ cur.size ∧ Below w2.heap.size w2 wr) (fun i _ => M.length - (intOf i).toNat)
    case atStart => exact ⟨0, cur0, Nat.zero_le _, rfl, hcur0, hsz0, hb3⟩
    case round =>
      obtain ⟨k, cur, hk1, rfl, hcur, hsz, hbm⟩ := hrel
      by_cases hlt : k < M.length
      · have hcell : wr.cell? ⟨gm, k, none⟩ = some (cur[k]'(by omega)) := by
          simp only [World.cell?, hcur]
          simp [show k < cur.size by omega]
        have hfz : wr.frozen? ⟨gm, k, none⟩ = false := by simp [World.frozen?, hcur]
        obtain ⟨cur', hcur', hsz'⟩ := set_block (k := k) hcur (.int .u16 33)
        have HC := (show Hid _ from hcur')
        have hb' := hbm.setCell (p := ⟨gm, k, none⟩) hgm (.int .u16 33)
        have HB := (show Hid _ from (And.intro hb'.os (And.intro hb'.tape (And.intro hb'.output (And.intro hb'.size hb'.block)))))
        have hszf : M.length ≤ cur'.size := by omega
        clear hcur' hcur hb' hsz'
        generalize cur[k]'(by omega) = old at *
        go_wp2
        go_roundw
        case rel => exact ⟨k + 1, cur', by omega, by go_num, HC.out, hszf, ⟨HB.out.1, HB.out.2.1, HB.out.2.2.1, HB.out.2.2.2.1, HB.out.2.2.2.2⟩⟩
        case measure => simp [intOf]; omega
      · have RA := RA2.below hbm
        have RB := RB2.below hbm
        have hBm := KEY.out _ hbm
        clear hcur
        go_wp2_with fail
        refine Calls.mono (hS7.out _ _ _ RA.row RB.row) ?_
        rintro e w4 ⟨rfl, hb4⟩
        have hB4 := hBm.trans (hb4.mono hBm.size)
        have RA4 := RA.below hb4
        have RB4 := RB.below hb4
        go_wp2_with fail
        refine Calls.mono (hT8.out _ _ RA4.row) ?_
        rintro e w5 ⟨rfl, hb5⟩
        have hB5 := hB4.trans (hb5.mono hB4.size)
        have RA5 := RA4.below hb5
        have RB5 := RB4.below hb5
        go_wp2_with fail
        refine Calls.mono (hX9.out _ _ RB5.row) ?_
        rintro e w6 ⟨rfl, hb6⟩
        have hB6 := hB5.trans (hb6.mono hB5.size)
        have RA6 := RA5.below hb6
        have RB6 := RB5.below hb6
        go_wp2_with fail
        refine Calls.mono (hS7.out _ _ _ RA6.row RB6.row) ?_
        rintro e w7 ⟨rfl, hb7⟩
        have hB7 := hB6.trans (hb7.mono hB6.size)
        have RB7 := RB6.below hb7
        go_wp2_with fail
        refine Calls.mono (hC1.out _ _ hB7 RB7.row) ?_
        rintro e w8 ⟨v8, rfl, hown8, hb8⟩
        have hB8 := hB7.trans (hb8.mono hB7.size)
        have RB8 := RB7.below hb8
        go_wp2_with fail
        refine Calls.mono (hX1.out _ _ (row16_of_owns hown8)) ?_
        rintro e w9 ⟨rfl, hb9⟩
        have hB9 := hB8.trans (hb9.mono hB8.size)
        have RB9 := RB8.below hb9
        go_wp2_with fail
        refine Calls.mono (hUp.out _ hB9) ?_
        rintro e w10 ⟨rfl, hb10⟩
        have hB10 := hB9.trans (hb10.mono hB9.size)
        have RB10 := RB9.below hb10
        go_wp2_with fail
        refine Calls.mono (hC2.out _ _ hB10 RB10.row) ?_
        rintro e w11 ⟨v11, rfl, hown11, hb11⟩
        have hB11 := hB10.trans (hb11.mono hB10.size)
        have RB11 := RB10.below hb11
        go_wp2_with fail
        refine Calls.mono (hX2.out _ _ (row16_of_owns hown11)) ?_
        rintro e w12 ⟨rfl, hb12⟩
        have hB12 := hB11.trans (hb12.mono hB11.size)
        have RB12 := RB11.below hb12
        go_wp2_with fail
        refine Calls.mono (hLo.out _ hB12) ?_
        rintro e w13 ⟨rfl, hb13⟩
        have hB13 := hB12.trans (hb13.mono hB12.size)
        have RB13 := RB12.below hb13
        go_wp2_with fail
        refine Calls.mono (hTr.out _ _ hB13 RB13) ?_
        rintro e w14 ⟨v14, rfl, RT14, hb14⟩
        have hB14 := hB13.trans (hb14.mono hB13.size)
        go_wp2_with fail
        refine Calls.mono (hX3.out _ _ RT14.row) ?_
        rintro e w15 ⟨rfl, hb15⟩
        have hB15 := hB14.trans (hb15.mono hB14.size)
        go_wp2_with fail
        refine Calls.mono (hTm.out _ hB15) ?_
        rintro e w16 ⟨rfl, hb16⟩
        have hB16 := hB15.trans (hb16.mono hB15.size)
        go_wp2
        go_ret
        exact ⟨by simp, hB16⟩
end Go.Proofs.YtmjnmnnfpcaogaaDoor
