/- What the row's list gives: the tables of strconv, utf8, unicode. -/
import Derived.Test.YtellndmbllmjgaaGreatDoorCNsA
import Derived.Test.YtellndmbllmjgaaGreatDoorRows
import Derived.Lib.LaidU8
import Derived.Lib.LaidU8T
import Derived.Lib.LaidRTabT
import Derived.LaidLaws
import Derived.Shelf.Vars
import GoSem.PinnedTables
set_option linter.unusedVariables false
namespace Go.Proofs.YtellndmbllmjgaaGreatDoor
open Go.RowKit Go.Shelf Go.Lib Fs

theorem gPow : Tryz.prog.globalNamed "internal/strconv.pow10Tab" = some 11 := by kernel_rfl
theorem gPowT : (Tryz.prog.globals[11]?).map (·.type) = some 306 := by kernel_rfl
theorem u305 : Tryz.prog.underlying 306 = some (.array 696 305) := by kernel_rfl
def fieldsOf : Option TypeDesc → Nat × List (TypeId × Nat)
  | some (.struct fs) => (1, fs.toList.map fun f => (f.type, f.offset))
  | _ => (0, [])
theorem f304 : fieldsOf (Tryz.prog.underlying 305) = (1, [(22, 0), (22, 1)]) := by kernel_rfl
theorem u304 : ∃ fs : Array Field, Tryz.prog.underlying 305 = some (.struct fs) ∧ fs.size = 2 ∧ (fs[0]?).map (fun f => (f.type, f.offset)) = some (22, 0) ∧ (fs[1]?).map (fun f => (f.type, f.offset)) = some (22, 1) := by
  have h := f304
  generalize Tryz.prog.underlying 305 = u at h
  unfold fieldsOf at h
  split at h
  · rename_i fs
    simp only [Prod.mk.injEq, true_and] at h
    have hl := congrArg List.length h
    have h0 := congrArg (·[0]?) h
    have h1 := congrArg (·[1]?) h
    simp at hl h0 h1
    refine ⟨fs, rfl, hl, ?_, ?_⟩
    · obtain ⟨x, h2, h3⟩ := h0
      rw [h2]; simp [h3]
    · obtain ⟨x, h2, h3⟩ := h1
      rw [h2]; simp [h3]
  · simp at h
theorem c304 : Tryz.prog.cellsOf 305 = 2 := by kernel_rfl
theorem c22 : Tryz.prog.cellsOf 22 = 1 := by kernel_rfl
theorem gP10 : Tryz.prog.globalNamed "internal/strconv.uint64pow10" = some 10 := by kernel_rfl
theorem gP10T : (Tryz.prog.globals[10]?).map (·.type) = some 290 := by kernel_rfl
theorem u289 : Tryz.prog.underlying 290 = some (.array 20 22) := by kernel_rfl
theorem c289 : Tryz.prog.cellsOf 290 = 20 := by kernel_rfl
/-- The table's rows are the powers of ten, as the walk takes them. -/
def powOk : Nat → List (Nat × Nat) → Bool
  | _, [] => true
  | i, (hi, lo) :: l => decide (hi < 18446744073709551616) && decide (lo < 18446744073709551616) && (pmOf i + lo == hi * 18446744073709551616) && powOk (i + 1) l
theorem powOk_at : ∀ (l : List (Nat × Nat)) (i j hi lo : Nat), powOk i l = true → l[j]? = some (hi, lo) → hi < 18446744073709551616 ∧ lo < 18446744073709551616 ∧ pmOf (i + j) + lo = hi * 18446744073709551616
  | [], _, j, _, _, _, h => by simp at h
  | (a, b) :: l, i, j, hi, lo, hc, h => by
    simp only [powOk, Bool.and_eq_true, decide_eq_true_eq, beq_iff_eq] at hc
    cases j with
    | zero =>
      simp only [List.getElem?_cons_zero, Option.some.injEq, Prod.mk.injEq] at h
      obtain ⟨rfl, rfl⟩ := h
      exact ⟨hc.1.1.1, hc.1.1.2, hc.1.2⟩
    | succ j =>
      simp only [List.getElem?_cons_succ] at h
      have := powOk_at l (i + 1) j hi lo hc.2 h
      rw [show i + (j + 1) = i + 1 + j by omega]
      exact this
theorem powOk_all : powOk 0 Go.Pinned.pow10Rows = true := by decide +kernel
theorem pow_len : Go.Pinned.pow10Rows.length = 696 := by decide +kernel
theorem powTab_of_reads {w : World} (h : VarReads Tryz.prog w "internal/strconv.pow10Tab" Go.Pinned.pow10Tab) : PowTab w := by
  intro i hi
  obtain ⟨g, t, cs, fuel, p, hg, hty, hvar, hd⟩ := h
  obtain rfl := Option.some.inj (gPow.symm.trans hg)
  obtain rfl := Option.some.inj (gPowT.symm.trans hty)
  obtain ⟨fuel', d, q, hdi, he⟩ := array_elem u305 hd i hi
  obtain ⟨⟨a, b⟩, hab⟩ : ∃ x, Go.Pinned.pow10Rows[i]? = some x := ⟨_, List.getElem?_eq_getElem (by rw [pow_len]; exact hi)⟩
  rw [List.getElem?_map, hab] at hdi
  simp only [Option.map_some, Option.some.injEq] at hdi
  subst hdi
  rw [c304] at he
  obtain ⟨fs, hu, hs, hf0, hf1⟩ := u304
  have hcs := ints_of_struct (zs := [(a : Int), (b : Int)]) hu (fun j f hj => by
    match j, hj with
    | 0, hj => rw [hj] at hf0; simp at hf0; exact ⟨by rw [hf0.1]; exact Tryz.underlying22, hf0.2, by rw [hf0.1]; exact c22⟩
    | 1, hj => rw [hj] at hf1; simp at hf1; exact ⟨by rw [hf1.1]; exact Tryz.underlying22, hf1.2, by rw [hf1.1]; exact c22⟩
    | j + 2, hj =>
      have : j + 2 < fs.size := by
        rcases Nat.lt_or_ge (j + 2) fs.size with h | h
        · exact h
        · rw [Array.getElem?_eq_none h] at hj; cases hj
      omega) (by rw [c304, hs]) he
  have e0 := congrArg (·[0]?) hcs
  have e1 := congrArg (·[1]?) hcs
  have v0 := World.var?_cell hg hvar (i * 2)
  have v1 := World.var?_cell hg hvar (i * 2 + 1)
  simp only [List.getElem?_take, List.getElem?_drop] at e0 e1
  have f := powOk_at Go.Pinned.pow10Rows 0 i a b powOk_all hab
  rw [Nat.zero_add] at f
  refine ⟨a, b, ⟨?_, ?_⟩, f⟩
  · rw [v0, ← Array.getElem?_toList]
    simpa using e0
  · rw [v1, ← Array.getElem?_toList]
    simpa using e1
theorem p10_of_reads {w : World} (h : VarReads Tryz.prog w "internal/strconv.uint64pow10" Rows.laid_internal_strconv_uint64pow10) : TabIs Tryz.prog w "internal/strconv.uint64pow10" .u64 Lib.pow10Tab := by
  have e : (Rows.laid_internal_strconv_uint64pow10 : DataW Unit) = tabData .u64 Lib.pow10Tab := by kernel_rfl
  rw [e] at h
  obtain ⟨g, t, cs, fuel, p, hg, hty, hvar, hd⟩ := h
  obtain rfl := Option.some.inj (gP10.symm.trans hg)
  obtain rfl := Option.some.inj (gP10T.symm.trans hty)
  unfold TabIs
  rw [hvar, ← cells_of_tab u289 Tryz.underlying22 c22 c289 hd]
theorem most_of_shape {w : World} (h : w.ShapedOpen Tryz.prog) : ∃ m, w.cell? ⟨6, 0, none⟩ = some (.int .i64 m) :=
  cell_of_shapedOpen_int (P := Tryz.prog) (g := 6) (t := 3) (zero := #[.int .i64 0]) h (of_decide_eq_true (by kernel_rfl)) (by kernel_rfl) rfl (by kernel_rfl) (by kernel_rfl) Tryz.underlying3
theorem gInfo : Tryz.prog.globalNamed "internal/strconv.float64info" = some 15 := by kernel_rfl
theorem gInfoT : (Tryz.prog.globals[15]?).map (·.type) = some 323 := by kernel_rfl
theorem c99 : Tryz.prog.cellsOf 99 = 1 := by kernel_rfl
theorem f322 : fieldsOf (Tryz.prog.underlying 323) = (1, [(99, 0), (99, 1), (3, 2)]) := by kernel_rfl
theorem u322 : ∃ fs : Array Field, Tryz.prog.underlying 323 = some (.struct fs) ∧ fs.size = 3 ∧ ∃ f0, fs[0]? = some f0 ∧ f0.type = 99 ∧ f0.offset = 0 := by
  have h := f322
  generalize Tryz.prog.underlying 323 = u at h
  unfold fieldsOf at h
  split at h
  · rename_i fs
    simp only [Prod.mk.injEq, true_and] at h
    have hl := congrArg List.length h
    have h0 := congrArg (·[0]?) h
    simp at hl h0
    obtain ⟨x, h2, h3⟩ := h0
    exact ⟨fs, rfl, hl, x, h2, h3.1, h3.2⟩
  · simp at h
theorem info_of_reads {w : World} (h : VarReads Tryz.prog w "internal/strconv.float64info" Rows.laid_internal_strconv_float64info) : w.cell? ⟨15, 0, none⟩ = some (.int .u64 52) := by
  obtain ⟨g, t, cs, fuel, p, hg, hty, hvar, hd⟩ := h
  obtain rfl := Option.some.inj (gInfo.symm.trans hg)
  obtain rfl := Option.some.inj (gInfoT.symm.trans hty)
  obtain ⟨fs, hu, hs, f0, hf0, ht0, ho0⟩ := u322
  obtain ⟨xs, n, rfl, hx, hl, hxl, hall⟩ := DataW.trod_struct hu hd
  have h0 := hall 0 f0 hf0
  rw [ht0, ho0, c99] at h0
  have hx0 : (xs.map (·.1))[0]? = some (DataW.lit (.int .u64 52)) := by
    have := congrArg Prod.fst hx
    simp only [DataW.agg.injEq, Rows.laid_internal_strconv_float64info] at this
    rw [← this]
    rfl
  obtain ⟨y, hy, hy1⟩ : ∃ y, xs[0]? = some y ∧ y.1 = DataW.lit (.int .u64 52) := by
    rw [List.getElem?_map] at hx0
    obtain ⟨y, hy, hy1⟩ := Option.map_eq_some_iff.1 hx0
    exact ⟨y, hy, hy1⟩
  rw [hy] at h0
  obtain ⟨z, hz, hz1, _⟩ := DataW.trod_int Tryz.underlying99 h0
  have hz2 : z = 52 := by
    rw [hz1] at hy1
    simpa using hy1
  subst hz2
  have v0 := World.var?_cell hg hvar 0
  rw [v0, ← Array.getElem?_toList]
  have := congrArg (·[0]?) hz
  simpa using this
theorem trod_f64 {H : Type} {enc : TypeId × Value → H} {w : World} {base : Nat} {spare : Nat → Bool} {held : Bool} {fuel : Nat} {cs : List Value} {x : DataW H × List MemPlace} (h : DataW.trod enc Tryz.prog w base spare held fuel 23 cs = some x) : ∃ n, cs = [.float .f64 n] ∧ x = (.lit (.float .f64 n), []) := by
  have ht : Tryz.prog.underlying 23 = some (.float .f64) := by rw [Tryz.underlying23]
  cases fuel with
  | zero => simp [DataW.trod] at h
  | succ n =>
    unfold DataW.trod at h
    rw [ht] at h
    split at h <;> simp_all
theorem gF10 : Tryz.prog.globalNamed "internal/strconv.float64pow10" = some 18 := by kernel_rfl
theorem gF10T : (Tryz.prog.globals[18]?).map (·.type) = some 338 := by kernel_rfl
theorem u337 : Tryz.prog.underlying 338 = some (.slice 23) := by kernel_rfl
theorem c23 : Tryz.prog.cellsOf 23 = 1 := by kernel_rfl
def p10L : List Nat := (List.range 23).map p10w
theorem p10_data : (Rows.laid_internal_strconv_float64pow10 : DataW Unit) = .slice (p10L.map fun x => .lit (.float .f64 x)) [] := by kernel_rfl
theorem p10s_of_reads {w : World} (h : VarReads Tryz.prog w "internal/strconv.float64pow10" Rows.laid_internal_strconv_float64pow10) : ∃ b off cap, w.cell? ⟨18, 0, none⟩ = some (.slice (some ⟨b, off, none⟩) 23 cap) ∧ ∀ k, k ≤ 22 → w.cell? ⟨b, off + k, none⟩ = some (.float .f64 (p10w k)) := by
  rw [p10_data] at h
  obtain ⟨g, t, cs, fuel, p, hg, hty, hvar, hd⟩ := h
  obtain rfl := Option.some.inj (gF10.symm.trans hg)
  obtain rfl := Option.some.inj (gF10T.symm.trans hty)
  have v0 := World.var?_cell hg hvar 0
  rcases DataW.trod_slice u337 hd with ⟨hcs, hx'⟩ | ⟨a', len, cap, el, rs, m, rfl, hc0, hx', _, hlc, _, hel, helem, hsp, _⟩
  · simp at hx'
  · simp only [Prod.mk.injEq, DataW.slice.injEq] at hx'
    obtain ⟨⟨eE, _⟩, _⟩ := hx'
    have hlen : len = 23 := by
      have := congrArg List.length eE
      simp [p10L] at this
      omega
    subst hlen
    have hat : ∀ i, i < 23 → w.cell? (a'.add i) = some (.float .f64 (p10w i)) := by
      intro i hi
      have h1 := helem i hi
      rw [c23, Nat.mul_one] at h1
      obtain ⟨b, hb⟩ : ∃ b, el[i]? = some b := ⟨el[i]'(by omega), List.getElem?_eq_getElem (by omega)⟩
      rw [hb] at h1
      obtain ⟨ce, hce, hte⟩ := Option.bind_eq_some_iff.1 h1
      have hb1 : b.1 = DataW.lit (.float .f64 (p10w i)) := by
        have := congrArg (·[i]?) eE
        simpa [hb, hi, p10L] using this.symm
      obtain ⟨_, _, hcc⟩ := World.cells?_some hce
      have hc := hcc 0 (by omega)
      obtain ⟨z, hz, hz1⟩ := trod_f64 hte
      rw [hz1] at hb1
      have hz2 : z = p10w i := by simpa using hb1
      subst hz2
      rw [hz] at hc
      have e : (a'.add i).add 0 = a'.add i := by simp [Addr.add]
      rw [e] at hc
      exact hc
    obtain ⟨R, o, sR⟩ := a'
    obtain rfl : sR = none := by
      have h00 := hat 0 (by omega)
      have : (Addr.add ⟨R, o, sR⟩ 0) = ⟨R, o, sR⟩ := by simp [Addr.add]
      rw [this] at h00
      exact cell_spot h00
    refine ⟨R, o, cap, ?_, fun k hk => ?_⟩
    · rw [v0, ← Array.getElem?_toList, hc0]
      rfl
    · have := hat k (by omega)
      rw [Addr.add_lit] at this
      exact this
theorem gOpt : Tryz.prog.globalNamed "internal/strconv.optimize" = some 7 := by kernel_rfl
theorem gOptT : (Tryz.prog.globals[7]?).map (·.type) = some 4 := by kernel_rfl
theorem opt_of_reads {w : World} (h : VarReads Tryz.prog w "internal/strconv.optimize" Rows.laid_internal_strconv_optimize) : w.cell? ⟨7, 0, none⟩ = some (.bool true) := by
  obtain ⟨g, t, cs, fuel, p, hg, hty, hvar, hd⟩ := h
  obtain rfl := Option.some.inj (gOpt.symm.trans hg)
  obtain rfl := Option.some.inj (gOptT.symm.trans hty)
  obtain ⟨b, hb, hx⟩ := DataW.trod_bool Tryz.underlying4 hd
  have hb2 : b = true := by
    have := congrArg Prod.fst hx
    simpa [Rows.laid_internal_strconv_optimize] using this.symm
  subst hb2
  have v0 := World.var?_cell hg hvar 0
  rw [v0, ← Array.getElem?_toList, hb]
  rfl
theorem gErr : Tryz.prog.globalNamed "strconv.ErrRange" = some 9 := by kernel_rfl
theorem gErrT : (Tryz.prog.globals[9]?).map (·.type) = some 79 := by kernel_rfl
def isIface : Option TypeDesc → Bool
  | some (.interface _) => true
  | _ => false
theorem u79 : ∃ ms, Tryz.prog.underlying 79 = some (.interface ms) := by
  have h : isIface (Tryz.prog.underlying 79) = true := by kernel_rfl
  generalize Tryz.prog.underlying 79 = u at h
  unfold isIface at h
  split at h
  · exact ⟨_, rfl⟩
  · cases h
theorem err_of_reads {w : World} (h : VarReads Tryz.prog w "strconv.ErrRange" Rows.laid_strconv_ErrRange) : ∃ te pe, w.cell? ⟨9, 0, none⟩ = some (.iface te pe) := by
  obtain ⟨g, t, cs, fuel, p, hg, hty, hvar, hd⟩ := h
  obtain rfl := Option.some.inj (gErr.symm.trans hg)
  obtain rfl := Option.some.inj (gErrT.symm.trans hty)
  obtain ⟨ms, hms⟩ := u79
  obtain ⟨_, u, v, hcs, _, _⟩ := iface_of_trod hms hd
  have v0 := World.var?_cell hg hvar 0
  refine ⟨u, v, ?_⟩
  rw [v0, ← Array.getElem?_toList, hcs]
  rfl
theorem u8extra : U8Extra Tryz.prog Tryz.lays260_ren := {
  n3 := by kernel_rfl
  n4 := by kernel_rfl
  y3 := by kernel_rfl
  y4 := by kernel_rfl
  c5 := by kernel_rfl
  c119 := by kernel_rfl
  c138 := by kernel_rfl }
/-- The numbers of the range table's types. -/
def zren : Go.Shelf.Ren := ⟨fun n => n, fun | 49 => 58 | 51 => 108 | 141 => 147 | 193 => 194 | 194 => 195 | 196 => 197 | 198 => 199 | 201 => 202 | n => n, fun n => n⟩
theorem rtypes : RTypes Tryz.prog zren := {
  t3 := Tryz.underlying3
  t49 := by kernel_rfl
  t51 := by kernel_rfl
  t141 := by kernel_rfl
  t193 := by kernel_rfl
  t194 := by kernel_rfl
  t196 := by kernel_rfl
  t198 := by kernel_rfl
  t201 := by kernel_rfl }
theorem rextra : RExtra Tryz.prog zren := {
  c3 := by kernel_rfl
  c49 := by kernel_rfl
  c51 := by kernel_rfl
  c193 := by kernel_rfl
  c194 := by kernel_rfl
  c196 := by kernel_rfl
  c198 := by kernel_rfl
  c201 := by kernel_rfl }
theorem first_eq : Go.Pinned.utf8First = (firstData : DataW Unit) := by kernel_rfl
theorem accept_eq : (Rows.laid_unicode_utf8_acceptRanges : DataW Unit) = acceptData := by kernel_rfl
theorem zs_eq : (Rows.laid_unicode_Zs : DataW Unit) = rtabData Ut.zsT := by kernel_rfl
theorem u8_of_reads {w : World} (h1 : VarReads Tryz.prog w "unicode/utf8.first" Go.Pinned.utf8First) (h2 : VarReads Tryz.prog w "unicode/utf8.acceptRanges" Rows.laid_unicode_utf8_acceptRanges) : Lib.Utf8Tabs 1 2 w := by
  rw [first_eq] at h1
  rw [accept_eq] at h2
  exact utf8Tabs_of_readsT (U8Types.of260 Tryz.lays260) u8extra h1 h2
theorem zs_of_reads {w : World} (h : VarReads Tryz.prog w "unicode.Zs" Rows.laid_unicode_Zs) : Lib.RVar 3 Ut.zsT w := by
  rw [zs_eq] at h
  exact rvar_of_readsT rtypes rextra (by kernel_rfl) (by kernel_rfl) h
end Go.Proofs.YtellndmbllmjgaaGreatDoor
