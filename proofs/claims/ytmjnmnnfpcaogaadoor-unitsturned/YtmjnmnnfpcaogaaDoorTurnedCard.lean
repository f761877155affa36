/-
  UnitsTurned: for every string, as long as it may be, the law answers true and leaves the string as it was: up to 4000 bytes, the program's Units, Text, Upper, Lower and Trim give what the document's own answer gives. Conditions: the four tables of packages utf8 and unicode that are read hold what the program's text, or the form's own copy of Go's table, lays (the card ties them).
-/
import Derived.Test.YtmjnmnnfpcaogaaDoorTurnedW
import Derived.Test.YtmjnmnnfpcaogaaDoorCards
import Derived.Test.YtmjnmnnfpcaogaaDoorTie
import Derived.ProofKit
import Derived.OpenShut
import Derived.ShutString
import Derived.ChangeOld
import Derived.Deep.DeepHandedRow
import Derived.Deep.DeepWitnessRowRef
import Derived.Lib.LaidU8
import Derived.Lib.LaidRTabT
import Derived.Lib.LaidCase
import Derived.Lib.LaidIn
import Derived.Great.CaseRows
import Derived.PinnedBridge
set_option linter.unusedVariables false
namespace Go.Proofs.YtmjnmnnfpcaogaaDoor
open Go.RowKit Go.Shelf Go.Lib

theorem turned_small (s : ByteArray) (hs : s.size ≤ 4000) (w : World) (hT : Lib.Utf8Tabs 1 2 w) (hV : CaseVar 3 caseA w) (hZ : RVar 0 zsT w) :
    Calls Tryd.prog 3 #[.string s] w fun e w' => e = .returned (.bool true) ∧ Below w.heap.size w w' := by
  have hs1 : (s ++ (⟨#[33]⟩ : ByteArray)).size = s.size + 1 := by
    rw [ByteArray.size_append]
    rfl
  have hul := unitsS_len s
  have hub := unitsS_lt s
  have hml := unitsS_len (s ++ (⟨#[33]⟩ : ByteArray))
  have hpl := Un.pts_lt _ hub
  have hpn := pts_length (unitsS s)
  have e1 := txt_mapU Un.maps_up (unitsS s) hub
  have e2 := txt_mapU Un.maps_lo (unitsS s) hub
  have l1 := mapU_len Un.upN (Un.pts (unitsS s))
  have l2 := mapU_len Un.loN (Un.pts (unitsS s))
  have l3 := trimU_len (unitsS s)
  exact turned_core s hs (unitsS s) (unitsS (s ++ (⟨#[33]⟩ : ByteArray))) (mapU Un.upN (Un.pts (unitsS s))) (mapU Un.loN (Un.pts (unitsS s))) (trimU (unitsS s)) (by omega) (by omega)
    (unitsS_ne _ (by omega)) (txt (unitsS s)) (mapT Un.upN (unitsS s)) (mapT Un.loN (unitsS s)) (txt (trimU (unitsS s))) w
    (fun W h => units_any s (by omega) W (tabs_below hT h))
    (fun W h => refUnits_any s (by omega) W (tabs_below hT h))
    (fun W h => units_any _ (by omega) W (tabs_below hT h))
    (fun a b W h1 h2 => by
      have := same_any a b (unitsS s) (unitsS s) (by omega) (by omega) W h1 h2
      simpa [Gives] using this)
    (fun v W h => text_any v _ hub (by omega) W h)
    (fun v W h => refText_any v _ hub (by omega) W h)
    (fun v W hb h => casedUp_any v _ hub (by omega) W h (tabs_below hT hb) (CaseVar_below hV hb))
    (fun v W h => by
      have := refText_any v _ (mapU_lt Un.maps_up _ hpl) (by omega) W h
      rwa [e1] at this)
    (fun W h => upper_any s (by omega) W (tabs_below hT h) (CaseVar_below hV h))
    (fun v W hb h => casedLo_any v _ hub (by omega) W h (tabs_below hT hb) (CaseVar_below hV hb))
    (fun v W h => by
      have := refText_any v _ (mapU_lt Un.maps_lo _ hpl) (by omega) W h
      rwa [e2] at this)
    (fun W h => lower_any s (by omega) W (tabs_below hT h) (CaseVar_below hV h))
    (fun v W hb h => refTrim_any v _ hub (by omega) W h (RVar_below hZ hb))
    (fun v W h => refText_any v _ (trimU_lt _ hub) (by omega) W h)
    (fun W h => trim_any s (by omega) W (tabs_below hT h) (RVar_below hZ h))
end Go.Proofs.YtmjnmnnfpcaogaaDoor

namespace Go.Proofs.YtmjnmnnfpcaogaaDoor.unitsTurned
open Go.ChangeShapes Go.WideShapes Go.ChangeAt Go.RowKit Go.Shelf Go.Lib Go.Great
open Go.ChangeMaps (open_string shut_string)

theorem own : ownKnob Tryd.prog.godebug = none := by kernel_rfl
theorem laidOut : laidOutB Tryd.prog = true := by kernel_rfl

theorem extra : U8Extra Tryd.prog Tryd.lays260_ren := {
  n3 := by kernel_rfl
  n4 := by kernel_rfl
  y3 := by kernel_rfl
  y4 := by kernel_rfl
  c5 := by kernel_rfl
  c119 := by kernel_rfl
  c138 := by kernel_rfl }
theorem l274 : Lays.n274 Tryd.prog Tryd.lays203_ren := { Tryd.lays203 with }
theorem caseExtra : CaseExtra Tryd.prog Tryd.lays203_ren := {
  n13 := by kernel_rfl
  y13 := by kernel_rfl
  c21 := by kernel_rfl
  c51 := by kernel_rfl
  c206 := by kernel_rfl
  c208 := by kernel_rfl }
/-- The numbers of the range table's types. -/
def zren : Go.Shelf.Ren := ⟨fun n => n, fun | 49 => 24 | 51 => 46 | 141 => 49 | 193 => 57 | 194 => 58 | 196 => 60 | 198 => 62 | 201 => 65 | n => n, fun n => n⟩
theorem rtypes : RTypes Tryd.prog zren := {
  t3 := Tryd.underlying3
  t49 := Tryd.underlying24
  t51 := Tryd.underlying46
  t141 := Tryd.underlying49
  t193 := Tryd.underlying57
  t194 := Tryd.underlying58
  t196 := Tryd.underlying60
  t198 := Tryd.underlying62
  t201 := Tryd.underlying65 }
theorem rextra : RExtra Tryd.prog zren := {
  c3 := by kernel_rfl
  c49 := by kernel_rfl
  c51 := by kernel_rfl
  c193 := by kernel_rfl
  c194 := by kernel_rfl
  c196 := by kernel_rfl
  c198 := by kernel_rfl
  c201 := by kernel_rfl }
theorem ctypes : CTypes Tryd.prog 56 75 73 46 21 := ⟨by kernel_rfl, by kernel_rfl, by kernel_rfl, by kernel_rfl, by kernel_rfl, by kernel_rfl, by kernel_rfl, by kernel_rfl, by kernel_rfl⟩

/-- What the row's list gives: the four tables. -/
theorem tables {W : World} (h : laidMetH Tryd.prog Rows.unitsTurnedRow.laid W) : Lib.Utf8Tabs 1 2 W ∧ CaseVar 3 caseA W ∧ RVar 0 zsT W := by
  rw [MakeChecks.laidMetH_plain _ _ _ (by kernel_rfl)] at h
  have h1 : VarReads Tryd.prog W _ Rows.laid_unicode_utf8_acceptRanges := laidMet.reads h (List.mem_cons_self ..)
  have h2 : VarReads Tryd.prog W _ Rows.laid_unicode_Zs := laidMet.reads h (List.mem_cons_of_mem _ (List.mem_cons_self ..))
  have h3 : VarReads Tryd.prog W _ Go.Pinned.caseRanges := laidMet.reads h (List.mem_cons_of_mem _ (List.mem_cons_of_mem _ (List.mem_cons_self ..)))
  have h4 : VarReads Tryd.prog W _ Go.Pinned.utf8First := laidMet.reads h (List.mem_cons_of_mem _ (List.mem_cons_of_mem _ (List.mem_cons_of_mem _ (List.mem_cons_self ..))))
  have e1 : (Rows.laid_unicode_utf8_acceptRanges : DataW Unit) = acceptData := by kernel_rfl
  have e2 : (Rows.laid_unicode_Zs : DataW Unit) = rtabData zsT := by kernel_rfl
  rw [e1] at h1
  rw [e2] at h2
  rw [Pinned.caseRanges_eq] at h3
  rw [Pinned.utf8First_eq] at h4
  exact ⟨utf8Tabs_of_reads Tryd.lays260 extra h4 h1, caseVar_of_reads l274 (by kernel_rfl) caseExtra h3, rvar_of_readsT rtypes rextra (by kernel_rfl) (by kernel_rfl) h2⟩

/-- The tables, cell by cell. -/
def firstCells : Array Value := (firstTab.map (Value.int .u8)).toArray
def acceptCells : Array Value := ((List.range 16).flatMap fun i => [Value.int .u8 (accLo i : Int), Value.int .u8 (accHi i : Int)]).toArray
def laidB (cs : Array Value) : Obj → Obj
  | .cells _ t frozen => .cells cs t frozen
  | o => o
/-- The blocks behind two of the variables. -/
def newBlocks (N : Nat) : Array Obj := #[.cells (rgCells .u16 zsT.r16) 62, .cells #[.slice (some ⟨N, 0, none⟩) 5 5, .slice none 0 0, .int .i64 1] 60, .cells caseCells5 75]
/-- A world with the four tables laid. -/
def laidW4 (w : World) (N : Nat) : World := { w with heap := (((w.heap.modify 1 (laidB firstCells)).modify 2 (laidB acceptCells)).modify 0 (laidB #[.pointer (some ⟨N + 1, 0, none⟩)])).modify 3 (laidB #[.slice (some ⟨N + 2, 0, none⟩) 336 336]) }

theorem piece0 (os : Os) : LaidIn Tryd.prog ((laidW4 (World.holding Tryd.prog os ⟨newBlocks (World.settled Tryd.prog os).heap.size, #[], []⟩) (World.settled Tryd.prog os).heap.size).forCall (fun _ _ => 0) ⟨#[], #[.string ⟨#[]⟩], []⟩).memory (Rows.unitsTurnedRow.laid.take 2) [2, 0, (World.settled Tryd.prog default).heap.size + 1, (World.settled Tryd.prog default).heap.size] :=
  LaidIn.of_run _ 8 (by kernel_rfl) (by kernel_rfl) (by kernel_rfl) (by kernel_rfl)
theorem piece2 (os : Os) : LaidIn Tryd.prog ((laidW4 (World.holding Tryd.prog os ⟨newBlocks (World.settled Tryd.prog os).heap.size, #[], []⟩) (World.settled Tryd.prog os).heap.size).forCall (fun _ _ => 0) ⟨#[], #[.string ⟨#[]⟩], []⟩).memory (Rows.unitsTurnedRow.laid.drop 3) [1] :=
  LaidIn.of_run _ 8 (by kernel_rfl) (by kernel_rfl) (by kernel_rfl) (by kernel_rfl)
theorem piece1 (os : Os) : LaidIn Tryd.prog ((laidW4 (World.holding Tryd.prog os ⟨newBlocks (World.settled Tryd.prog os).heap.size, #[], []⟩) (World.settled Tryd.prog os).heap.size).forCall (fun _ _ => 0) ⟨#[], #[.string ⟨#[]⟩], []⟩).memory ((Rows.unitsTurnedRow.laid.drop 2).take 1) [3, (World.settled Tryd.prog default).heap.size + 2] := by
  have h := laidIn_case ctypes (name := (Rows.unitsTurnedRow.laid.getD 2 ("", .nil)).1) (g := 3) (B := (World.settled Tryd.prog default).heap.size + 2) (tg := 56) (tb := 75) (w := ((laidW4 (World.holding Tryd.prog os ⟨newBlocks (World.settled Tryd.prog os).heap.size, #[], []⟩) (World.settled Tryd.prog os).heap.size).forCall (fun _ _ => 0) ⟨#[], #[.string ⟨#[]⟩], []⟩).memory) caseT (by kernel_rfl) (by kernel_rfl) (Nat.le_of_ble_eq_true (by kernel_rfl)) (by kernel_rfl) (by kernel_rfl) (by kernel_rfl) (Nat.ne_of_beq_eq_false (by kernel_rfl))
  have e : (Rows.unitsTurnedRow.laid.drop 2).take 1 = [((Rows.unitsTurnedRow.laid.getD 2 ("", .nil)).1, Go.Pinned.caseRanges)] := rfl
  rw [e, Pinned.caseRanges_eq]
  exact h
theorem laid_met (os : Os) : laidMet Tryd.prog Rows.unitsTurnedRow.laid ((laidW4 (World.holding Tryd.prog os ⟨newBlocks (World.settled Tryd.prog os).heap.size, #[], []⟩) (World.settled Tryd.prog os).heap.size).forCall (fun _ _ => 0) ⟨#[], #[.string ⟨#[]⟩], []⟩).memory :=
  (((piece0 os).append (piece1 os) (by kernel_rfl)).append (piece2 os) (by kernel_rfl)).met
theorem reads (os : Os) {H : Type} (enc : TypeId × Value → H) : ∃ places, DataW.whole enc Tryd.prog ((laidW4 (World.holding Tryd.prog os ⟨newBlocks (World.settled Tryd.prog os).heap.size, #[], []⟩) (World.settled Tryd.prog os).heap.size).forCall (fun _ _ => 0) ⟨#[], #[.string ⟨#[]⟩], []⟩).memory Tryd.f3.params.toList Rows.unitsTurnedSpec.vars false #[Value.string ⟨#[]⟩].toList 8 = some ([.lit (.string [])], [], places) :=
  ⟨[], by kernel_rfl⟩

/-- What the walks give, for every argument and every world that holds the tables. -/
theorem contract (H : Type) (enc : TypeId × Value → H) (W : World) (base : Nat) (args : Array Value) (ds gs : List (DataW H)) (before : List MemPlace)
    (hval0 : ∀ (j : Nat) t v, Tryd.f3.params[j]? = some t → args[j]? = some v → Value.okWide Tryd.prog W .any base t v)
    (hW : DataW.Whole enc Tryd.prog Tryd.f3.params.toList Rows.unitsTurnedSpec.vars false W args.toList ds gs before) (hL : laidMetH Tryd.prog Rows.unitsTurnedRow.laid W) :
    Calls Tryd.prog 3 args W fun e W' => ∃ v, e = .returned v ∧ Rows.unitsTurnedSpec.post enc Tryd.prog Tryd.f3 false true false false W args v W' := by
  obtain ⟨hT, hV0, hZ⟩ := tables hL
  have hval : ∀ (j : Nat) t v, Tryd.f3.params[j]? = some t → args[j]? = some v → Value.okWide Tryd.prog W .any base t v := hval0
  have hW' := hW
  obtain ⟨p, q, hA0, hV, rfl, hfz, hnd⟩ := hW
  have hA : DataW.TrodAll enc Tryd.prog W 0 (fun _ => true) true Tryd.f3.params.toList args.toList ds p := hA0
  rw [Tryd.params3] at hA hval
  obtain ⟨v0, vs0, d0, ds0, p0, q0, hargs, rfl, rfl, h0, r0⟩ := trodAll_cons hA
  obtain ⟨rfl, rfl, rfl⟩ := trodAll_nil r0
  obtain rfl : args = #[v0] := by cases args; simp_all
  obtain ⟨rfl, rfl⟩ := trodVars_none hV
  obtain ⟨s, rfl, rfl, rfl, ws⟩ := open_string Tryd.underlying9 (hval 0 9 v0 rfl rfl) h0
  have walk : Calls Tryd.prog 3 #[.string s] W fun e w' => e = .returned (.bool true) ∧ Below W.heap.size W w' := by
    by_cases hg : 4000 < s.size
    · exact turned_great s hg ws W
    · exact turned_small s (by omega) W hT hV0 hZ
  clear hA0 hval0
  refine walk.mono fun e W' ⟨he, bel⟩ => ?_
  subst he
  exact ⟨_, rfl, _, _, _, [], _, [], hW', trodAll_mk1 (shut_bool Tryd.underlying4 _), (trodAll_cons_mk (shut_string Tryd.underlying9 ws) trodAll_mk0), rfl, bel.frame _, fun h => by cases h⟩

set_option maxRecDepth 100000 in
theorem lifted (os : Os) (started : os.Started) (H : Type) (enc : TypeId × Value → H) (F : Stop.Interp) :
    ReturnsInHanded {} Tryd.checked os 3 .any ((OpenSpec.ofChange Rows.unitsTurnedSpec).preRow enc Tryd.prog Tryd.f3 Rows.unitsTurnedRow.domain false Rows.unitsTurnedRow.laid) (((OpenSpec.ofChange Rows.unitsTurnedSpec).at F).post enc Tryd.prog Tryd.f3 false true false false) := by
  obtain ⟨places, hx⟩ := reads os enc
  refine returnsInHanded_of_row (C := Tryd.checked) (s := OpenSpec.ofChange Rows.unitsTurnedSpec) own started (by kernel_rfl) Tryd.func3
    (witness_row_atRef (enc := enc) (C := Tryd.checked) false (laidW4 (World.holding Tryd.prog os ⟨newBlocks (World.settled Tryd.prog os).heap.size, #[], []⟩) (World.settled Tryd.prog os).heap.size) #[.string ⟨#[]⟩] rfl (by kernel_rfl) (by kernel_rfl) (by kernel_rfl)
      (OpenSpec.preRow_of_cond 8 hx (by kernel_rfl) (fun k hk => by cases hk) (by kernel_rfl) (laid_met os))) ?_
  intro W base args ds gs before hval hW _ _ _ hL _ _
  exact contract H enc W base args ds gs before hval hW hL

theorem said : Rows.UnitsTurnedSaid :=
  OpenClaim.holds_of_cond 3 Tryd.f3 rfl rfl rfl rfl rfl rfl rfl ⟨rfl, rfl, rfl, rfl, rfl⟩ rfl rfl rfl rfl rfl (by kernel_rfl) Tryd.func3 (by kernel_rfl)
    (of_decide_eq_true (by kernel_rfl)) (by unfold Func.isWrapper; first | (rw [if_pos (by decide +kernel)]; kernel_rfl) | (rw [if_neg (by decide +kernel)]; exact ⟨rfl, rfl⟩))
    (fun os started H enc _ F => by rw [OpenClaim.pre_eq_preRow]; exact lifted os started H enc F)

/-- No parameter wants a stand-in; the program's own looks are off. -/
theorem plain (f : FuncId) (fn : Func) (hf : Tryd.pinned.checked.prog.funcNamed Rows.unitsTurnedRow.func = some f) (hfn : Tryd.pinned.checked.prog.funcs[f]? = some fn) :
    false = Tryd.pinned.checked.prog.looks [] ∧ ∀ (j : Nat) t, fn.params[j]? = some t → Tryd.pinned.checked.prog.wantsStandIn t = false := by
  obtain rfl : f = 3 := Option.some.inj ((show Tryd.prog.funcNamed Rows.unitsTurnedRow.func = some 3 by kernel_rfl).symm.trans hf) |>.symm
  obtain rfl : fn = Tryd.f3 := (Option.some.inj (Tryd.func3.symm.trans hfn)).symm
  refine ⟨by kernel_rfl, fun j t ht => ?_⟩
  rw [Tryd.params3] at ht
  obtain rfl : t = 9 := by simpa using Array.mem_of_getElem? ht
  exact (show Tryd.prog.wantsStandIn 9 = false by kernel_rfl)

/-- **The card.** -/
theorem card : Rows.UnitsTurnedCardSaid :=
  Claim7.holds_tied_plain_at .later [] _ _ _ _ said (fun _ h => by cases h) (by kernel_rfl) (fun _ h => by cases h) unitsTurned_row_tie rfl ⟨rfl, rfl⟩ (by kernel_rfl) rfl plain (by kernel_rfl)
end Go.Proofs.YtmjnmnnfpcaogaaDoor.unitsTurned
namespace Go.Proofs.YtmjnmnnfpcaogaaDoor
/-- **UnitsTurned, for every input.** -/
theorem unitsTurned_card : Rows.UnitsTurnedCardSaid := unitsTurned.card
#print axioms unitsTurned_card
end Go.Proofs.YtmjnmnnfpcaogaaDoor
