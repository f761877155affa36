/- The law, its last loop. -/
import Derived.Test.YtmicdbplkfdfnaaGreatDoorCTq1x
set_option linter.unusedVariables false
namespace Go.Proofs.YtmicdbplkfdfnaaGreatDoor
open Go.RowKit Go.Shelf Go.Maps
attribute [local go_sem] run_store_flt build32 build34 build34s

/-- What stands behind the first statements. -/
def dropC : Nat → Code → Code
  | 0, c => c
  | n + 1, .seq _ b => dropC n b
  | _ + 1, c => c
/-- The law's own text. -/
noncomputable def f3B : Code := Tryz.f3.body.getD .skip
theorem flat15 {l : List Pr} {j : Nat} {p : Pr} (h : l[j]? = some p) : ∀ t v, (dL p)[t]? = some v → (l.flatMap dL)[j * 15 + t]? = some v := by
  intro t v hv
  have ht : t < 15 := by
    rcases Nat.lt_or_ge t 15 with h1 | h1
    · exact h1
    · rw [List.getElem?_eq_none (by simpa [dL] using h1)] at hv
      cases hv
  induction l generalizing j with
  | nil => simp at h
  | cons a l ih =>
    rw [List.flatMap_cons]
    cases j with
    | zero =>
      simp only [List.getElem?_cons_zero, Option.some.injEq] at h
      subst h
      rw [Nat.zero_mul, Nat.zero_add, List.getElem?_append_left (by simpa [dL] using ht)]
      exact hv
    | succ j =>
      rw [List.getElem?_cons_succ] at h
      rw [List.getElem?_append_right (by simp [dL]; omega)]
      have e : (j + 1) * 15 + t - (dL a).length = j * 15 + t := by simp [dL]; omega
      rw [e]
      exact ih h
/-- How the law ends. -/
def Good (w : World) : Exit → Act → World → Prop := bodyPost Tryz.prog Tryz.f3 fun e w' => e = .returned (.bool true) ∧ Below w.heap.size w w'
set_option maxRecDepth 1000000 in
set_option maxHeartbeats 40000000 in
theorem tail6 (w : World) (O H b : Nat) (arr : Bool) (ks : List Nat) (L : List ByteArray) (P : List Pr) (f : Nat → Option Pr) (ga va na : Option Addr) (n ca cb cc m : Nat) (hn : n = (allK ks L).length) (hn61 : n ≤ 61) (hE : Env w) (h4 : Fin4 arr ks L P f) (W : World)
    (hC : LawC w O H b arr ks L P f [(na, (allK ks L).map Value.string), (va, (ofAll ks L P f).flatMap dL), (ga, (allK ks L).map Value.string)] m W) (z0 z1 z2 z3 z4 z5 z6 z8 z10 z11 z13 z15 z16 z17 z18 z19 z20 z22 z23 z24 z25 z26 z27 z28 z29 z30 z31 z32 z33 z34 z35 z36 z37 z38 z39 z40 z41 z42 z43 z44 z45 z46 z47 z48 z49 z50 z51 z52 z53 z54 z55 z56 z57 z58 z59 z60 z61 z62 z63 z64 z65 z66 z67 z68 z69 z70 z71 z72 z73 z74 z75 z76 z77 z78 z79 z80 z81 z82 z83 z84 z85 z86 z87 z88 z89 z90 z91 z92 z93 z94 z95 z96 z97 z98 z99 z100 z101 z102 z103 z104 z105 z106 z107 z108 z109 z110 z111 z112 z113 z114 z115 z116 z117 z118 z119 z120 z121 z122 z123 z124 z125 z126 z127 z128 z129 z130 z131 z132 z133 z134 z135 z136 z137 z138 z139 z140 z141 z142 z143 z144 z145 z146 z147 z148 z149 z150 z151 z152 z153 z154 z155 z156 z157 z158 z159 z160 z161 z162 z163 z164 z165 z166 z167 z168 z169 z170 z171 z172 z173 z174 z175 z176 z177 z178 z179 z180 z181 z182 z183 z184 z185 z186 z187 z188 z189 z190 z191 z192 z193 z194 z195 z196 z197 z198 z199 z200 z201 z202 z203 z204 z205 z206 z207 z208 z209 z210 z211 z212 z213 z214 z215 z216 z217 z218 z219 z220 z221 z222 z223 z224 z225 z226 z227 z228 z229 z230 z231 z232 z233 z234 z235 z236 z237 z238 z239 z240 z241 z242 z243 : Value) :
    Code.wp Tryz.prog (dropC 17 f3B) (Good w) ⟨#[z0, z1, z2, z3, z4, z5, z6, .pointer (some ⟨O, 0, none⟩), z8, .int .i64 1, z10, z11, .slice ga n ca, z13, .slice va n cb, z15, z16, z17, z18, z19, z20, .slice na n cc, z22, z23, z24, z25, z26, z27, z28, z29, z30, z31, z32, z33, z34, z35, z36, z37, z38, z39, z40, z41, z42, z43, z44, z45, z46, z47, z48, z49, z50, z51, z52, z53, z54, z55, z56, z57, z58, z59, z60, z61, z62, z63, z64, z65, z66, z67, z68, z69, z70, z71, z72, z73, z74, z75, z76, z77, z78, z79, z80, z81, z82, z83, z84, z85, z86, z87, z88, z89, z90, z91, z92, z93, z94, z95, z96, z97, z98, z99, z100, z101, z102, z103, z104, z105, z106, z107, z108, z109, z110, z111, z112, z113, z114, z115, z116, z117, z118, z119, z120, z121, z122, z123, z124, z125, z126, z127, z128, z129, z130, z131, z132, z133, z134, z135, z136, z137, z138, z139, z140, z141, z142, z143, z144, z145, z146, z147, z148, z149, z150, z151, z152, z153, z154, z155, z156, z157, z158, z159, z160, z161, z162, z163, z164, z165, z166, z167, z168, z169, z170, z171, z172, z173, z174, z175, z176, z177, z178, z179, z180, z181, z182, z183, z184, z185, z186, z187, z188, z189, z190, z191, z192, z193, z194, z195, z196, z197, z198, z199, z200, z201, z202, z203, z204, z205, z206, z207, z208, z209, z210, z211, z212, z213, z214, z215, z216, z217, z218, z219, z220, z221, z222, z223, z224, z225, z226, z227, z228, z229, z230, z231, z232, z233, z234, z235, z236, z237, z238, z239, z240, z241, z242, z243], []⟩ W := by
  have HE : Hid (Env w) := hE
  have HF4 : Hid (Fin4 arr ks L P f) := h4
  have HN : Hid (n = (allK ks L).length) := hn
  have HC : Hid (LawC w O H b arr ks L P f [(na, (allK ks L).map Value.string), (va, (ofAll ks L P f).flatMap dL), (ga, (allK ks L).map Value.string)] m W) := hC
  clear hE h4 hn hC
  conv => arg 2; whnf
  go_wp2
  go_loopw [22, 23, 24, 25] (fun v22 _ _ _ wr => ∃ j : Nat, j ≤ n ∧ v22 = .int .i64 j ∧ Hid (LawC w O H b arr ks L P f [(na, (allK ks L).map Value.string), (va, (ofAll ks L P f).flatMap dL), (ga, (allK ks L).map Value.string)] m wr))
    (fun i _ _ _ _ => n - (intOf i).toNat)
  case atStart => exact ⟨0, Nat.zero_le _, rfl, HC⟩
  case round =>
    obtain ⟨j, hj, rfl, hI⟩ := hrel
    clear HC
    by_cases hlt : j < n
    · obtain ⟨s, hs⟩ : ∃ s, (allK ks L)[j]? = some s := ⟨_, List.getElem?_eq_getElem (by have := HN.out; omega)⟩
      obtain ⟨en, x, hx, hl, hof⟩ := HF4.out.at hs
      have hm : ((allK ks L).map Value.string)[j]? = some (.string s) := by rw [List.getElem?_map, hs]; rfl
      obtain ⟨X, hX⟩ : ∃ X, X = wN x := ⟨_, rfl⟩
      have hy : (FloatKind.f64.format.order X X == some .eq) = true := by rw [hX]; exact order_wN_self (by omega)
      rw [← hX] at hl hof
      obtain ⟨ga1, rfl, hca⟩ := hI.out.at (List.mem_cons_of_mem _ (List.mem_cons_of_mem _ (List.mem_cons_self ..))) hm
      obtain ⟨na1, rfl, hcn⟩ := hI.out.at (List.mem_cons_self ..) hm
      obtain ⟨va1, rfl, hcv⟩ := hI.out.at (List.mem_cons_of_mem _ (List.mem_cons_self ..)) (flat15 hof 0 _ rfl)
      have e0 := hca wr (Kx.refl _ _) j _ hm
      have CO := (show Hid (Unit → _) from fun _ : Unit => hI.out.owns HE.out HF4.out hs hl wr (Kx.refl _ _))
      have HV := (show Hid (∀ W', Kx [] wr W' → ∀ t v, (dL (false, en, false, X))[t]? = some v → W'.cell? ⟨va1, j * 15 + t, none⟩ = some v) from fun W' hW' t v hv => hcv W' hW' _ _ (flat15 hof t v hv))
      have HA := (show Hid (∀ W', Kx [] wr W' → W'.cell? ⟨ga1, j, none⟩ = some (.string s) ∧ W'.cell? ⟨na1, j, none⟩ = some (.string s)) from fun W' hW' => ⟨hca W' hW' _ _ hm, hcn W' hW' _ _ hm⟩)
      have CS := (show Hid (∀ w, _) from sameDescs_same X false en false hy)
      clear hx hl hof hm hX hs hca hcn hcv hy
      go_wp2_with (first | (go_at_call 10; fail))
      refine (CO.out ()).mono ?_
      rintro e w6 ⟨rfl, hk6⟩
      have R2 : Hid (Kx [] wr w6) := hk6
      clear hk6 CO e0
      go_upto_region 57 with fail
      obtain ⟨W7, hW7⟩ : ∃ W7, W7 = w6.alloc (Obj.cells #[.bool true, .bool false, .bool false, .bool true, .bool true, .bool true, .int .i64 3, .float .f64 X, .string ⟨#[]⟩, .int .i64 0, .int .i64 0, .int .i64 0, .bool false, .bool en, .bool false] 34) := ⟨_, rfl⟩
      have HD : Hid (W7.heap[w6.heap.size]? = some (Obj.cells #[.bool true, .bool false, .bool false, .bool true, .bool true, .bool true, .int .i64 3, .float .f64 X, .string ⟨#[]⟩, .int .i64 0, .int .i64 0, .int .i64 0, .bool false, .bool en, .bool false] 34 (0, 0))) := by rw [hW7]; exact heap_alloc_new _ _
      have R4 : Hid (Kx [] wr W7) := by rw [hW7]; exact (show Kx [] wr _ from R2.out.alc _)
      rw [← hW7]
      clear hW7 R2
      have y0 := cell_at HD.out 0 rfl
      have y1 := cell_at HD.out 1 rfl
      have y2 := cell_at HD.out 2 rfl
      have y3 := cell_at HD.out 3 rfl
      have y4 := cell_at HD.out 4 rfl
      have y5 := cell_at HD.out 5 rfl
      have y6 := cell_at HD.out 6 rfl
      have y7 := cell_at HD.out 7 rfl
      have y8 := cell_at HD.out 8 rfl
      have y9 := cell_at HD.out 9 rfl
      have y10 := cell_at HD.out 10 rfl
      have y11 := cell_at HD.out 11 rfl
      have y12 := cell_at HD.out 12 rfl
      have y13 := cell_at HD.out 13 rfl
      have y14 := cell_at HD.out 14 rfl
      have x0 : W7.cell? ⟨va1, j * 15, none⟩ = some (.bool true) := HV.out W7 R4.out 0 _ rfl
      have x1 := HV.out W7 R4.out 1 _ rfl
      have x2 := HV.out W7 R4.out 2 _ rfl
      have x3 := HV.out W7 R4.out 3 _ rfl
      have x4 := HV.out W7 R4.out 4 _ rfl
      have x5 := HV.out W7 R4.out 5 _ rfl
      have x6 := HV.out W7 R4.out 6 _ rfl
      have x7 := HV.out W7 R4.out 7 _ rfl
      have x8 := HV.out W7 R4.out 8 _ rfl
      have x9 := HV.out W7 R4.out 9 _ rfl
      have x10 := HV.out W7 R4.out 10 _ rfl
      have x11 := HV.out W7 R4.out 11 _ rfl
      have x12 := HV.out W7 R4.out 12 _ rfl
      have x13 := HV.out W7 R4.out 13 _ rfl
      have x14 := HV.out W7 R4.out 14 _ rfl
      go_region_law (first | (go_simp; go_at_call 13; refine (CS.out _).mono ?_; rintro e w8 ⟨rfl, hk8⟩; have R5 : Hid (Kx [] wr w8) := (show Kx [] wr w8 from (R4.out.drw1).same hk8)))
      all_goals clear hk8 y0 x0 y1 x1 y2 x2 y3 x3 y4 x4 y5 x5 y6 x6 y7 x7 y8 x8 y9 x9 y10 x10 y11 x11 y12 x12 y13 x13 y14 x14 HD HV CS R4
      all_goals (
        obtain ⟨a1, a2⟩ := HA.out w8 R5.out
        go_upto_region 58 with fail
        go_quiet (fail)
        go_wp2
        go_roundw
        case rel => exact ⟨j + 1, by omega, by go_num, (show LawC w O H b arr ks L P f [(some ⟨na1, 0, none⟩, (allK ks L).map Value.string), (some ⟨va1, 0, none⟩, (ofAll ks L P f).flatMap dL), (some ⟨ga1, 0, none⟩, (allK ks L).map Value.string)] m _ from hI.out.kx (R5.out.drw _))⟩
        case measure => simp [intOf]; omega)
    · clear HN HF4
      have HB := (show Hid (Below w.heap.size w wr) from hI.out.below)
      clear hI
      go_wp2
      unfold Good
      go_ret
      exact ⟨rfl, HB.out⟩
end Go.Proofs.YtmicdbplkfdfnaaGreatDoor
