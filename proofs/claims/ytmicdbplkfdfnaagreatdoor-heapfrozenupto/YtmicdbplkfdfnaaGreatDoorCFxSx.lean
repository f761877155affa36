/- A step of the script, read off the argument. -/
import Derived.Test.YtmicdbplkfdfnaaGreatDoorCTr1
import Derived.Test.YtmicdbplkfdfnaaGreatDoorCTr2
import Derived.Test.YtmicdbplkfdfnaaGreatDoorRows
import Derived.ProofKit
import Derived.ChangeArms
import Derived.Deep.Slices
import Derived.SliceStrings
import Derived.Test.YtmicdbplkfdfnaaGreatDoorCFxWx
import Derived.OpenShut
import Derived.ChangeOld
import Derived.Deep.DeepHandedRow
import Derived.Deep.DeepWitnessRowRef
import Derived.MakeChecks
import Derived.Lib.LaidTab
set_option linter.unusedVariables false
namespace Go.Proofs.YtmicdbplkfdfnaaGreatDoor
open Go.RowKit Go.Shelf Go.Lib

theorem cc3 : Tryz.prog.cellsOf 3 = 1 := by kernel_rfl
theorem cc4 : Tryz.prog.cellsOf 4 = 1 := by kernel_rfl
theorem cc9 : Tryz.prog.cellsOf 9 = 1 := by kernel_rfl
theorem cc30 : Tryz.prog.cellsOf 30 = 1 := by kernel_rfl
theorem cc40 : Tryz.prog.cellsOf 40 = 1 := by kernel_rfl
theorem cc32 : Tryz.prog.cellsOf 32 = 4 := by kernel_rfl
theorem cc34 : Tryz.prog.cellsOf 34 = 15 := by kernel_rfl
theorem cc42 : Tryz.prog.cellsOf 42 = 21 := by kernel_rfl
section
variable {H : Type} {enc : TypeId × Value → H} {w : World} {base : Nat} {spare : Nat → Bool} {held : Bool} {fuel : Nat} {cs : List Value} {x : DataW H × List MemPlace}
theorem trod_flt {t : TypeId} {k : FloatKind} (ht : Tryz.prog.underlying t = some (.float k)) (h : DataW.trod enc Tryz.prog w base spare held fuel t cs = some x) : ∃ b, cs = [.float k b] ∧ x = (.lit (.float k b), []) ∧ (Lit.float k b).wf = true := by
  cases fuel with
  | zero => simp [DataW.trod] at h
  | succ n =>
    unfold DataW.trod at h
    rw [ht] at h
    split at h <;> simp_all
theorem bytes_size (s : ByteArray) : s.data.toList.length = s.size := Array.length_toList
set_option maxRecDepth 100000 in
theorem open32 (h : DataW.trod enc Tryz.prog w base spare held fuel 32 cs = some x) : ∃ (k : Int) (z : Nat) (tx : ByteArray) (rf : Int), cs = [.int .i64 k, .float .f64 z, .string tx, .int .i64 rf] ∧ z < 18446744073709551616 ∧ tx.size ≤ Rows.uptoBulk x.1 := by
  obtain ⟨xs, n, _, rfl, hl, hlen, hf⟩ := DataW.trod_struct Tryz.underlying32 h
  rw [cc32] at hl
  match cs, hl, xs, hlen with
  | [c0, c1, c2, c3], _, [y0, y1, y2, y3], _ =>
    have f0 : DataW.trod enc Tryz.prog w base spare held n 3 [c0] = some y0 := by simpa [cc3] using hf 0 _ rfl
    have f1 : DataW.trod enc Tryz.prog w base spare held n 30 [c1] = some y1 := by simpa [cc30] using hf 1 _ rfl
    have f2 : DataW.trod enc Tryz.prog w base spare held n 9 [c2] = some y2 := by simpa [cc9] using hf 2 _ rfl
    have f3 : DataW.trod enc Tryz.prog w base spare held n 3 [c3] = some y3 := by simpa [cc3] using hf 3 _ rfl
    obtain ⟨k, e0, rfl, _⟩ := DataW.trod_int Tryz.underlying3 f0
    obtain ⟨z, e1, rfl, hz⟩ := trod_flt Tryz.underlying30 f1
    obtain ⟨tx, e2, rfl, _⟩ := DataW.trod_string Tryz.underlying9 f2
    obtain ⟨rf, e3, rfl, _⟩ := DataW.trod_int Tryz.underlying3 f3
    refine ⟨k, z, tx, rf, ?_, ?_, ?_⟩
    · simp only [List.cons.injEq, and_true] at e0 e1 e2 e3
      rw [e0, e1, e2, e3]
    · simpa [Lit.wf] using hz
    · simp only [List.map_cons, List.map_nil, Rows.uptoBulk, Rows.uptoBulkAll, bytes_size]
      omega
set_option maxRecDepth 100000 in
theorem open34 (h : DataW.trod enc Tryz.prog w base spare held fuel 34 cs = some x) : ∃ (hv hg ht hw he hc wt en cf : Bool) (k rf g st : Int) (z : Nat) (tx : ByteArray), cs = [.bool hv, .bool hg, .bool ht, .bool hw, .bool he, .bool hc, .int .i64 k, .float .f64 z, .string tx, .int .i64 rf, .int .i64 g, .int .i64 st, .bool wt, .bool en, .bool cf] ∧ z < 18446744073709551616 ∧ tx.size ≤ Rows.uptoBulk x.1 := by
  obtain ⟨xs, n, _, rfl, hl, hlen, hf⟩ := DataW.trod_struct Tryz.underlying34 h
  rw [cc34] at hl
  match cs, hl, xs, hlen with
  | [c0, c1, c2, c3, c4, c5, c6, c7, c8, c9, c10, c11, c12, c13, c14], _, [y0, y1, y2, y3, y4, y5, y6, y7, y8, y9, y10, y11], _ =>
    have f0 : DataW.trod enc Tryz.prog w base spare held n 4 [c0] = some y0 := by simpa [cc4] using hf 0 _ rfl
    have f1 : DataW.trod enc Tryz.prog w base spare held n 4 [c1] = some y1 := by simpa [cc4] using hf 1 _ rfl
    have f2 : DataW.trod enc Tryz.prog w base spare held n 4 [c2] = some y2 := by simpa [cc4] using hf 2 _ rfl
    have f3 : DataW.trod enc Tryz.prog w base spare held n 4 [c3] = some y3 := by simpa [cc4] using hf 3 _ rfl
    have f4 : DataW.trod enc Tryz.prog w base spare held n 4 [c4] = some y4 := by simpa [cc4] using hf 4 _ rfl
    have f5 : DataW.trod enc Tryz.prog w base spare held n 4 [c5] = some y5 := by simpa [cc4] using hf 5 _ rfl
    have f6 : DataW.trod enc Tryz.prog w base spare held n 32 [c6, c7, c8, c9] = some y6 := by simpa [cc32] using hf 6 _ rfl
    have f7 : DataW.trod enc Tryz.prog w base spare held n 3 [c10] = some y7 := by simpa [cc3] using hf 7 _ rfl
    have f8 : DataW.trod enc Tryz.prog w base spare held n 3 [c11] = some y8 := by simpa [cc3] using hf 8 _ rfl
    have f9 : DataW.trod enc Tryz.prog w base spare held n 4 [c12] = some y9 := by simpa [cc4] using hf 9 _ rfl
    have f10 : DataW.trod enc Tryz.prog w base spare held n 4 [c13] = some y10 := by simpa [cc4] using hf 10 _ rfl
    have f11 : DataW.trod enc Tryz.prog w base spare held n 4 [c14] = some y11 := by simpa [cc4] using hf 11 _ rfl
    obtain ⟨hv, e0, rfl⟩ := DataW.trod_bool Tryz.underlying4 f0
    obtain ⟨hg, e1, rfl⟩ := DataW.trod_bool Tryz.underlying4 f1
    obtain ⟨ht, e2, rfl⟩ := DataW.trod_bool Tryz.underlying4 f2
    obtain ⟨hw, e3, rfl⟩ := DataW.trod_bool Tryz.underlying4 f3
    obtain ⟨he, e4, rfl⟩ := DataW.trod_bool Tryz.underlying4 f4
    obtain ⟨hc, e5, rfl⟩ := DataW.trod_bool Tryz.underlying4 f5
    obtain ⟨k, z, tx, rf, e6, hz, htx⟩ := open32 f6
    obtain ⟨g, e7, rfl, _⟩ := DataW.trod_int Tryz.underlying3 f7
    obtain ⟨st, e8, rfl, _⟩ := DataW.trod_int Tryz.underlying3 f8
    obtain ⟨wt, e9, rfl⟩ := DataW.trod_bool Tryz.underlying4 f9
    obtain ⟨en, e10, rfl⟩ := DataW.trod_bool Tryz.underlying4 f10
    obtain ⟨cf, e11, rfl⟩ := DataW.trod_bool Tryz.underlying4 f11
    refine ⟨hv, hg, ht, hw, he, hc, wt, en, cf, k, rf, g, st, z, tx, ?_, hz, ?_⟩
    · simp only [List.cons.injEq, and_true] at e0 e1 e2 e3 e4 e5 e6 e7 e8 e9 e10 e11
      obtain ⟨q0, q1, q2, q3⟩ := e6
      rw [e0, e1, e2, e3, e4, e5, e7, e8, e9, e10, e11, q0, q1, q2, q3]
    · simp only [List.map_cons, List.map_nil, Rows.uptoBulk, Rows.uptoBulkAll]
      omega
set_option maxRecDepth 100000 in
theorem step_open (h : DataW.trod enc Tryz.prog w base spare held fuel 42 cs = some x) (hb : Rows.uptoBulk x.1 ≤ 1048576) : ∃ s : StepD, s.cells = cs ∧ s.OK := by
  obtain ⟨xs, n, _, rfl, hl, hlen, hf⟩ := DataW.trod_struct Tryz.underlying42 h
  rw [cc42] at hl
  match cs, hl, xs, hlen with
  | [c0, c1, c2, c3, c4, c5, c6, c7, c8, c9, c10, c11, c12, c13, c14, c15, c16, c17, c18, c19, c20], _, [y0, y1, y2, y3, y4, y5, y6], _ =>
    have f0 : DataW.trod enc Tryz.prog w base spare held n 3 [c0] = some y0 := by simpa [cc3] using hf 0 _ rfl
    have f1 : DataW.trod enc Tryz.prog w base spare held n 3 [c1] = some y1 := by simpa [cc3] using hf 1 _ rfl
    have f2 : DataW.trod enc Tryz.prog w base spare held n 3 [c2] = some y2 := by simpa [cc3] using hf 2 _ rfl
    have f3 : DataW.trod enc Tryz.prog w base spare held n 3 [c3] = some y3 := by simpa [cc3] using hf 3 _ rfl
    have f4 : DataW.trod enc Tryz.prog w base spare held n 9 [c4] = some y4 := by simpa [cc9] using hf 4 _ rfl
    have f5 : DataW.trod enc Tryz.prog w base spare held n 34 [c5, c6, c7, c8, c9, c10, c11, c12, c13, c14, c15, c16, c17, c18, c19] = some y5 := by simpa [cc34] using hf 5 _ rfl
    have f6 : DataW.trod enc Tryz.prog w base spare held n 40 [c20] = some y6 := by simpa [cc40] using hf 6 _ rfl
    obtain ⟨kind, e0, rfl, _⟩ := DataW.trod_int Tryz.underlying3 f0
    obtain ⟨A, e1, rfl, hA⟩ := DataW.trod_int Tryz.underlying3 f1
    obtain ⟨B, e2, rfl, _⟩ := DataW.trod_int Tryz.underlying3 f2
    obtain ⟨C, e3, rfl, _⟩ := DataW.trod_int Tryz.underlying3 f3
    obtain ⟨key, e4, rfl, _⟩ := DataW.trod_string Tryz.underlying9 f4
    obtain ⟨hv, hg, ht, hw, he, hc, wt, en, cf, k, rf, g, st, z, tx, e5, hz, htx⟩ := open34 f5
    obtain ⟨la, ln, lc, e6⟩ : ∃ la ln lc, c20 = .slice la ln lc := by
      rcases DataW.trod_slice Tryz.underlying40 f6 with ⟨h0, _⟩ | ⟨a, len, cap, _, _, _, _, h0, _⟩
      · exact ⟨none, 0, 0, by simpa using h0⟩
      · exact ⟨some a, len, cap, by simpa using h0⟩
    refine ⟨⟨kind, A, B, C, key, hv, hg, ht, hw, he, hc, k, z, tx, rf, g, st, wt, en, cf, la, ln, lc⟩, ?_, ?_⟩
    · simp only [List.cons.injEq, and_true] at e0 e1 e2 e3 e4 e5
      obtain ⟨q0, q1, q2, q3, q4, q5, q6, q7, q8, q9, q10, q11, q12, q13, q14⟩ := e5
      rw [e0, e1, e2, e3, e4, q0, q1, q2, q3, q4, q5, q6, q7, q8, q9, q10, q11, q12, q13, q14, e6]
      rfl
    · simp only [List.map_cons, List.map_nil, Rows.uptoBulk, Rows.uptoBulkAll, bytes_size] at hb
      have hA2 : -9223372036854775808 ≤ A ∧ A ≤ 9223372036854775807 := by
        simp [Lit.wf, IntKind.min, IntKind.max, IntKind.bits, IntKind.signed] at hA
        omega
      exact ⟨(show key.size ≤ 1048576 by omega), (show tx.size ≤ 1048576 by omega), hz, hA2⟩
end
end Go.Proofs.YtmicdbplkfdfnaaGreatDoor
set_option linter.unusedVariables false
namespace Go.Proofs.YtmicdbplkfdfnaaGreatDoor.heapFrozen
open Go.ChangeShapes Go.WideShapes Go.ChangeAt Go.RowKit Go.Shelf Go.Lib Go.Deep

theorem own : ownKnob Tryz.prog.godebug = none := by kernel_rfl
theorem laidOut : laidOutB Tryz.prog = true := by kernel_rfl
theorem extra : U8Extra Tryz.prog Tryz.lays260_ren := {
  n3 := by kernel_rfl
  n4 := by kernel_rfl
  y3 := by kernel_rfl
  y4 := by kernel_rfl
  c5 := by kernel_rfl
  c119 := by kernel_rfl
  c138 := by kernel_rfl }
set_option maxRecDepth 100000 in
theorem first_eq : Go.Pinned.utf8First = Go.Lib.firstData := by kernel_rfl
theorem et : Tryz.prog.globalNamed "errors.errorType" = some 1 := by kernel_rfl
theorem rt : (Tryz.prog.cutTypes.find? (·.1 == "internal/reflectlite.rtype")).map (·.2) = some 214 := by kernel_rfl
theorem tsize : Tryz.prog.types.size = 296 := by kernel_rfl
theorem oneRow : ((List.range 296).filter fun t => Tryz.prog.rowNamed t [101, 114, 114, 111, 114]) = [56] := by kernel_rfl
theorem only : (Rows.heapFrozenUptoRow.laid.filter fun x => x.2.handleName?.isSome) = [("errors.errorType", Rows.laid_errors_errorType)] := by kernel_rfl
theorem parts {W : World} (h : laidMetH Tryz.prog Rows.heapFrozenUptoRow.laid W) : laidMet Tryz.prog plainL W ∧ handlesMet Tryz.prog [("errors.errorType", Rows.laid_errors_errorType)] W := by
  unfold laidMetH at h
  rw [only] at h
  simp only at h
  rw [laid_part] at h
  exact h
/-- The variable errors.errorType. -/
theorem errT_of {W : World} (h : handlesMet Tryz.prog [("errors.errorType", Rows.laid_errors_errorType)] W) : ErrT W := by
  obtain ⟨name, u, ty, e1, e2, e3, e4, e5⟩ := h _ (List.mem_singleton.2 rfl)
  have en : name = [101, 114, 114, 111, 114] := (Option.some.inj e1).symm
  subst en
  obtain rfl := Option.some.inj (rt.symm.trans e2)
  have hm : ty ∈ (List.range 296).filter fun t => Tryz.prog.rowNamed t [101, 114, 114, 111, 114] := List.mem_filter.2 ⟨List.mem_range.2 (by rw [← tsize]; exact e3), e4⟩
  rw [oneRow] at hm
  obtain rfl := List.mem_singleton.1 hm
  have hh : typeHandle Tryz.prog 56 = .pointer (some ⟨7, 56, none⟩) := by kernel_rfl
  rw [hh] at e5
  unfold ErrT
  simpa using World.var?_cell et e5 0
theorem gTab : Tryz.prog.globalNamed "internal/strconv.uint64pow10" = some 4 := by kernel_rfl
theorem gTabT : (Tryz.prog.globals[4]?).map (·.type) = some 242 := by kernel_rfl
theorem uTab : Tryz.prog.underlying 242 = some (.array 20 124) := by kernel_rfl
theorem uElem : Tryz.prog.underlying 124 = some (.int .u64) := by kernel_rfl
theorem cTab : Tryz.prog.cellsOf 242 = 20 := by kernel_rfl
theorem cElem : Tryz.prog.cellsOf 124 = 1 := by kernel_rfl
theorem tab_of_reads {w : World} (h : VarReads Tryz.prog w "internal/strconv.uint64pow10" Rows.laid_internal_strconv_uint64pow10) : Lib.TabIs Tryz.prog w "internal/strconv.uint64pow10" .u64 Lib.pow10Tab := by
  have e : (Rows.laid_internal_strconv_uint64pow10 : DataW Unit) = tabData .u64 Lib.pow10Tab := by kernel_rfl
  rw [e] at h
  obtain ⟨g, t, cs, fuel, p, hg, hty, hvar, hd⟩ := h
  obtain rfl := Option.some.inj (gTab.symm.trans hg)
  obtain rfl := Option.some.inj (gTabT.symm.trans hty)
  unfold TabIs
  rw [hvar, ← cells_of_tab uTab uElem cElem cTab hd]
/-- What the row's list gives. -/
theorem tables {W : World} (h0 : laidMetH Tryz.prog Rows.heapFrozenUptoRow.laid W) : Env W := by
  obtain ⟨h, he⟩ := parts h0
  have h2 : Go.Lib.VarReads Tryz.prog W _ Rows.laid_internal_strconv_uint64pow10 := Go.Lib.laidMet.reads h (List.mem_cons_of_mem _ (List.mem_cons_of_mem _ (List.mem_cons_self ..)))
  have h3 : Go.Lib.VarReads Tryz.prog W _ Go.Pinned.utf8First := Go.Lib.laidMet.reads h (List.mem_cons_of_mem _ (List.mem_cons_of_mem _ (List.mem_cons_of_mem _ (List.mem_cons_of_mem _ (List.mem_cons_self ..)))))
  have h4 : Go.Lib.VarReads Tryz.prog W _ Rows.laid_unicode_utf8_acceptRanges := Go.Lib.laidMet.reads h (List.mem_cons_of_mem _ (List.mem_cons_of_mem _ (List.mem_cons_of_mem _ (List.mem_cons_self ..))))
  have e : (Rows.laid_unicode_utf8_acceptRanges : DataW Unit) = Go.Lib.acceptData := by kernel_rfl
  rw [first_eq] at h3
  rw [e] at h4
  exact ⟨utf8Tabs_of_reads Tryz.lays260 extra h3 h4, errT_of he, tab_of_reads h2⟩
theorem bulk_part {H : Type} {d : DataW H} {l : List (DataW H)} (h : d ∈ l) : Rows.uptoBulk d ≤ Rows.uptoBulkAll l := by
  induction l with
  | nil => cases h
  | cons x r ih =>
    simp only [Rows.uptoBulkAll]
    cases List.mem_cons.1 h with
    | inl e => subst e; omega
    | inr e => have := ih e; omega
theorem bulk_one {H : Type} (d : DataW H) : 1 ≤ Rows.uptoBulk d := by
  unfold Rows.uptoBulk
  split <;> omega
theorem bulk_count {H : Type} : ∀ (l : List (DataW H)), l.length ≤ Rows.uptoBulkAll l
  | [] => Nat.zero_le _
  | d :: l => by
    have := bulk_count l
    have := bulk_one d
    simp only [Rows.uptoBulkAll, List.length_cons] at this ⊢
    omega
set_option maxRecDepth 100000 in
theorem bulk_str {H : Type} {ss : List ByteArray} {s : ByteArray} (h : s ∈ ss) : s.size + 1 ≤ Rows.uptoBulkAll (strs (H := H) ss) := by
  have h1 : (DataW.lit (.string s.data.toList) : DataW H) ∈ strs ss := List.mem_map.2 ⟨s, h, rfl⟩
  have h2 := bulk_part h1
  have h3 : Rows.uptoBulk (DataW.lit (.string s.data.toList) : DataW H) = s.data.toList.length + 1 := by simp [Rows.uptoBulk]
  have h4 : s.data.toList.length = s.size := Array.length_toList
  omega
/-- The keys, read off the argument. -/
theorem keys_read {H : Type} {enc : TypeId × Value → H} {W : World} {v : Value} {d : DataW H} {ps : List MemPlace} {a : Option Addr} {len cap : Nat} (hb : Rows.uptoBulk d ≤ 1048576) (h : DataW.Trod enc Tryz.prog W 0 (fun _ => true) true 22 (.slice a len cap) d ps) :
    ∃ K : List ByteArray, K.length = len ∧ len ≤ 1048576 ∧ (∀ j s, K[j]? = some s → ∃ x, a = some x ∧ (x.add j).block < W.heap.size ∧ W.cell? (x.add j) = some (.string s)) ∧ ∀ s ∈ K, s.size ≤ 1048576 := by
  obtain ⟨fuel, hf⟩ := h
  rcases open_strings Tryz.underlying22 Tryz.underlying9 (by kernel_rfl) hf with ⟨hcs, _⟩ | ⟨x, l, c, ss, hcs, _, hl, hm, hz, hx, hcell, hss⟩
  · simp [Value.cells] at hcs
    obtain ⟨rfl, rfl, rfl⟩ := hcs
    exact ⟨[], rfl, by omega, by simp, by simp⟩
  · simp [Value.cells] at hcs
    obtain ⟨rfl, rfl, rfl⟩ := hcs
    have hzl : ss.length = cap := by simpa using hz
    have hlt : (ss.take len).length = len := by rw [List.length_take]; omega
    have hd : d = .slice (strs (ss.take len)) (strs (ss.drop len)) := congrArg Prod.fst hx
    have hb2 : Rows.uptoBulkAll (strs (H := H) (ss.take len)) ≤ 1048576 := by
      rw [hd] at hb
      simp only [Rows.uptoBulk] at hb
      omega
    have hlen := bulk_count (strs (H := H) (ss.take len))
    have hsl : (strs (H := H) (ss.take len)).length = len := by simp only [strs, List.length_map]; exact hlt
    refine ⟨ss.take len, hlt, by omega, fun j s hs => ?_, fun s hs => ?_⟩
    · have hj := (List.getElem?_eq_some_iff.1 hs).1
      rw [hlt] at hj
      have h5 := hcell j (by omega)
      have e : ss.getD j ByteArray.empty = s := by
        rw [List.getElem?_take_of_lt hj] at hs
        rw [List.getD_eq_getElem?_getD, hs]
        rfl
      rw [e] at h5
      exact ⟨x, rfl, cell_block_lt h5, h5⟩
    · have := bulk_str (H := H) hs
      omega
instance : Inhabited StepD := ⟨⟨0, 0, 0, 0, ByteArray.empty, false, false, false, false, false, false, 0, 0, ByteArray.empty, 0, 0, 0, false, false, false, none, 0, 0⟩⟩
/-- The script, read off the argument. -/
theorem script_read {H : Type} {enc : TypeId × Value → H} {W : World} {d : DataW H} {ps : List MemPlace} {a : Option Addr} {len cap : Nat} (hb : Rows.uptoBulk d ≤ 1048576) (h : DataW.Trod enc Tryz.prog W 0 (fun _ => true) true 23 (.slice a len cap) d ps) :
    ∃ Ss : List StepD, Ss.length = len ∧ len ≤ 1048576 ∧ (∀ j s, Ss[j]? = some s → ∃ x, a = some x ∧ x.block < W.heap.size ∧ ∀ t v, s.cells[t]? = some v → W.cell? (x.add (j * 21 + t)) = some v) ∧ ∀ s ∈ Ss, s.OK := by
  obtain ⟨fuel, hf⟩ := h
  rcases open_slice Tryz.underlying23 hf with ⟨hcs, _⟩ | ⟨x, l, c, m, n, D, Pl, hcs, _, hl, hm, hmm, hx, hcell⟩
  · simp [Value.cells] at hcs
    obtain ⟨rfl, rfl, rfl⟩ := hcs
    exact ⟨[], rfl, by omega, by simp, by simp⟩
  · simp [Value.cells] at hcs
    obtain ⟨rfl, rfl, rfl⟩ := hcs
    have hmc : m = cap := by simpa using hmm
    subst hmc
    have hd : d = .slice ((List.range len).map D) ((List.range (m - len)).map fun j => D (len + j)) := congrArg Prod.fst hx
    have hb2 : Rows.uptoBulkAll ((List.range len).map D) ≤ 1048576 := by
      rw [hd] at hb
      simp only [Rows.uptoBulk] at hb
      omega
    have hlen := bulk_count ((List.range len).map D)
    rw [List.length_map, List.length_range] at hlen
    rw [cc42] at hcell
    obtain ⟨S, hS⟩ := choose_lt (α := StepD) (n := len) (p := fun i s => (∀ t v, s.cells[t]? = some v → W.cell? (x.add (i * 21 + t)) = some v) ∧ s.OK) (fun i hi => by
      obtain ⟨cs', h1, h2⟩ := hcell i (by omega)
      have h3 : Rows.uptoBulk (D i) ≤ 1048576 := Nat.le_trans (bulk_part (List.mem_map.2 ⟨i, List.mem_range.2 hi, rfl⟩)) hb2
      obtain ⟨s, h4, h5⟩ := step_open h2 h3
      obtain ⟨_, hl2, hc2⟩ := World.cells?_some h1
      refine ⟨s, fun t v hv => ?_, h5⟩
      rw [h4] at hv
      have ht : t < 21 := by
        have := (List.getElem?_eq_some_iff.1 hv).1
        omega
      have h6 := hc2 t ht
      rw [Go.Deep.add_add, hv] at h6
      exact h6)
    refine ⟨(List.range len).map S, by simp, by omega, fun j s hs => ?_, fun s hs => ?_⟩
    · have hj := (List.getElem?_eq_some_iff.1 hs).1
      simp only [List.length_map, List.length_range] at hj
      have e : s = S j := by
        rw [List.getElem?_map, List.getElem?_range hj] at hs
        exact (Option.some.inj hs).symm
      subst e
      refine ⟨x, rfl, ?_, (hS j hj).1⟩
      have h7 := (hS j hj).1 0 (.int .i64 (S j).kind) rfl
      have h8 := cell_block_lt h7
      rw [addr_block] at h8
      exact h8
    · obtain ⟨j, hj, rfl⟩ := List.mem_map.1 hs
      exact (hS j (List.mem_range.1 hj)).2
set_option maxRecDepth 100000 in
/-- What the walks give, for every argument within the bound and every world that holds the tables. -/
theorem contract (H : Type) (enc : TypeId × Value → H) (W : World) (base : Nat) (args : Array Value) (ds gs : List (DataW H)) (before : List MemPlace)
    (hval0 : ∀ (j : Nat) t v, Tryz.f3.params[j]? = some t → args[j]? = some v → Value.okWide Tryz.prog W .any base t v)
    (hW : DataW.Whole enc Tryz.prog Tryz.f3.params.toList Rows.heapFrozenSpec.vars false W args.toList ds gs before) (hk : Rows.uptoSmall H (ds ++ gs) = true) (hL : laidMetH Tryz.prog Rows.heapFrozenUptoRow.laid W) :
    Calls Tryz.prog 3 args W fun e W' => ∃ v, e = .returned v ∧ Rows.heapFrozenSpec.post enc Tryz.prog Tryz.f3 false true false false W args v W' := by
  have hT := tables hL
  have hbk : Rows.uptoBulkAll (ds ++ gs) ≤ 1048576 := of_decide_eq_true hk
  have hval : ∀ (j : Nat) t v, Tryz.f3.params[j]? = some t → args[j]? = some v → Value.okWide Tryz.prog W .any base t v := hval0
  have hW' := hW
  obtain ⟨p, q, hA0, hV, rfl, hfz, hnd⟩ := hW
  have hA : DataW.TrodAll enc Tryz.prog W 0 (fun _ => true) true Tryz.f3.params.toList args.toList ds p := hA0
  rw [Tryz.params3] at hA hval
  obtain ⟨v0, vs0, d0, ds0, p0, q0, hargs, rfl, rfl, h0, r0⟩ := trodAll_cons hA
  obtain ⟨v1, vs1, d1, ds1, p1, q1, rfl, rfl, rfl, h1, r1⟩ := trodAll_cons r0
  obtain ⟨v2, vs2, d2, ds2, p2, q2, rfl, rfl, rfl, h2, r2⟩ := trodAll_cons r1
  obtain ⟨rfl, rfl, rfl⟩ := trodAll_nil r2
  obtain rfl : args = #[v0, v1, v2] := by cases args; simp_all
  obtain ⟨rfl, rfl⟩ := trodVars_none hV
  obtain ⟨a0, len0, cap0, rfl⟩ := okWide_slice Tryz.underlying22 (hval 0 22 v0 rfl rfl)
  obtain ⟨a1, len1, cap1, rfl⟩ := okWide_slice Tryz.underlying23 (hval 1 23 v1 rfl rfl)
  have k0 := h0
  have k1 := h1
  have k2 := h2
  have lt0 : ∀ x ∈ p0, x.block < W.heap.size := by obtain ⟨m, hm⟩ := k0; exact DataW.trod_lt m _ _ _ hm
  have lt1 : ∀ x ∈ p1, x.block < W.heap.size := by obtain ⟨m, hm⟩ := k1; exact DataW.trod_lt m _ _ _ hm
  have lt2 : ∀ x ∈ p2, x.block < W.heap.size := by obtain ⟨m, hm⟩ := k2; exact DataW.trod_lt m _ _ _ hm
  obtain ⟨b2, rfl, rfl, rfl⟩ := open_bool Tryz.underlying4 (hval 2 4 v2 rfl rfl) h2
  simp only [List.append_nil, Rows.uptoBulkAll] at hbk
  obtain ⟨K, rfl, hK1, hK2, hK3⟩ := keys_read (v := .bool false) (show Rows.uptoBulk d0 ≤ 1048576 by omega) h0
  obtain ⟨Ss, rfl, hS1, hS2, hS3⟩ := script_read (show Rows.uptoBulk d1 ≤ 1048576 by omega) h1
  have walk : Calls Tryz.prog 3 #[.slice a0 K.length cap0, .slice a1 Ss.length cap1, .bool b2] W fun e w' => e = .returned (.bool true) ∧ Below W.heap.size W w' := by
    cases b2 with
    | false => exact law_obj a0 a1 cap0 cap1 K Ss W (by omega) (by omega) hK2 hK3 hS2 hS3 hT
    | true => exact law_arr a0 a1 cap0 cap1 K Ss W (by omega) (by omega) hK2 hK3 hS2 hS3 hT
  clear hA0 hval0
  refine walk.mono fun e W' ⟨he, bel⟩ => ?_
  subst he
  exact ⟨_, rfl, _, _, _, [], _, [], hW', trodAll_mk1 (shut_bool Tryz.underlying4 _), (trodAll_cons_mk (Below.trod laidOut (by kernel_rfl) (of_decide_eq_true (by kernel_rfl)) k0 bel lt0) (trodAll_cons_mk (Below.trod laidOut (by kernel_rfl) (of_decide_eq_true (by kernel_rfl)) k1 bel lt1) (trodAll_cons_mk (Below.trod laidOut (by kernel_rfl) (of_decide_eq_true (by kernel_rfl)) k2 bel lt2) trodAll_mk0))), rfl, bel.frame _, fun h => by cases h⟩
theorem reads (os : Os) {H : Type} (enc : TypeId × Value → H) : ∃ places, DataW.whole enc Tryz.prog ((laidW (World.holding Tryz.prog os ⟨#[], #[], []⟩)).forCall (fun _ _ => 0) ⟨#[], #[.slice none 0 0, .slice none 0 0, .bool false], []⟩).memory Tryz.f3.params.toList Rows.heapFrozenSpec.vars false #[Value.slice none 0 0, Value.slice none 0 0, Value.bool false].toList 8 = some ([.nil, .nil, .lit (.bool false)], [], places) :=
  ⟨[], by kernel_rfl⟩

set_option maxRecDepth 100000 in
theorem lifted (os : Os) (started : os.Started) (H : Type) (enc : TypeId × Value → H) (F : Stop.Interp) :
    ReturnsInHanded {} Tryz.checked os 3 .any ((Rows.OpenSpec.upto Rows.heapFrozenSpec).preRow enc Tryz.prog Tryz.f3 Rows.heapFrozenUptoRow.domain false Rows.heapFrozenUptoRow.laid) (((Rows.OpenSpec.upto Rows.heapFrozenSpec).at F).post enc Tryz.prog Tryz.f3 false true false false) := by
  obtain ⟨places, hx⟩ := reads os enc
  refine returnsInHanded_of_row (C := Tryz.checked) (s := Rows.OpenSpec.upto Rows.heapFrozenSpec) own started (by kernel_rfl) Tryz.func3
    (witness_row_atRef (enc := enc) (C := Tryz.checked) false (laidW (World.holding Tryz.prog os ⟨#[], #[], []⟩)) #[.slice none 0 0, .slice none 0 0, .bool false] rfl (vars os) (by kernel_rfl) (by kernel_rfl)
      (OpenSpec.preRow_of_cond 8 hx (by kernel_rfl) (fun k hk => by cases hk; kernel_rfl) (by kernel_rfl) (laid_metH os))) ?_
  intro W base args ds gs before hval hW _ hcond _ hL hS _
  exact contract H enc W base args ds gs before hval hW (hcond _ rfl) hL
end Go.Proofs.YtmicdbplkfdfnaaGreatDoor.heapFrozen
namespace Go.Proofs.YtmicdbplkfdfnaaGreatDoor.heapFrozen

theorem closed : joinedFacts Tryz.pinned.checked.prog 3 Tryz.f3 (Rows.OpenSpec.upto Rows.heapFrozenSpec).bare Rows.heapFrozenUptoRow = true := by kernel_rfl
end Go.Proofs.YtmicdbplkfdfnaaGreatDoor.heapFrozen
